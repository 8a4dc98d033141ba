/-
  slices.pdqsortOrdered at uint32. Conditions: fewer than fifty, and a limit that is great enough (so that the heap is never asked).
-/
import Derived.Test.YtlgdcelgkiipaaaGreatOc19
import Derived.Test.YtlgdcelgkiipaaaGreatOc22
set_option maxRecDepth 100000
set_option linter.unusedVariables false
namespace Go.Proofs.YtlgdcelgkiipaaaGreat.Ls
open Go.RowKit Go.Sort
theorem wr8d {L q:Nat} (e:q=L / 8):(L:Int).tdiv 8=(q:Int):=by rw [Int.tdiv_eq_ediv_of_nonneg (by omega)];omega
def PdO (w0:World) (base g n c m:Nat) (R:Array Int) (va vb vl v8 v9:Value) (w:World):Prop :=
 ∃ (a b lim:Nat) (wb wp:Bool) (dk:Array Int),va=.int .i64 (a:Int)∧vb=.int .i64 (b:Int)∧vl=.int .i64 (lim:Int)∧v8=.bool wb∧v9=.bool wp∧a≤b∧b≤n∧b - a≤m∧b - a≤lim + 12∧lim<100∧Sr w0 base g n c dk w∧Go.Sort.Below ltInt a b dk∧pdq ltInt dk a b lim wb wp=R
set_option maxHeartbeats 8000000 in
theorem pdq_u {w0:World} {base g n c:Nat} (hn:n<50):∀ (m:Nat) (w:World) (a b lim:Nat) (d:Array Int),Sr w0 base g n c d w→w0.heap.size≤w.heap.size→b - a<m→a≤b→b≤n→b - a≤lim + 12→lim<100→Go.Sort.Below ltInt a b d →
  Calls Tryz.prog 259 #[.slice (some ⟨g,0,none⟩) n c,.int .i64 (a:Int),.int .i64 (b:Int),.int .i64 (lim:Int)] w fun e w'=>e=.returned (.tuple #[])∧Sr w0 base g n c (pdq ltInt d a b lim true true) w':=by
 intro m
 induction m with
 | zero=>intro w a b lim d h hw hm;omega
 | succ m ih =>
  intro w a0 b0 lim0 d h hw hm hab hb hlim hl9 hB
  have HIH:=Lib.hid ih
  obtain ⟨R,hR⟩ : ∃ R,R=pdq ltInt d a0 b0 lim0 true true:=⟨_,rfl⟩
  rw [← hR]
  have H0:=Lib.hid (show PdO w0 base g n c m R (.int .i64 (a0:Int)) (.int .i64 (b0:Int)) (.int .i64 (lim0:Int)) (.bool true) (.bool true) w from ⟨a0,b0,lim0,true,true,d,rfl,rfl,rfl,rfl,rfl,hab,hb,by omega,hlim,hl9,h,hB,hR.symm⟩)
  have HN:=Lib.hid hn
  clear h hw hm hab hb hlim hl9 hB hR ih hn
  go_enter Tryz.func259,Tryz.ntmps259
  go_wp2_with fail
  go_loopw [1,2,3,8,9] (fun va vb vl v8 v9 wr=>PdO w0 base g n c m R va vb vl v8 v9 wr) (fun va vb _ _ _ _=>(intOf vb).toNat - (intOf va).toNat)
  case atStart=>exact H0.out
  case round =>
   clear H0
   obtain ⟨a,b,lim,wb,wp,dk,rfl,rfl,rfl,rfl,rfl,hab,hb,hbm,hbl,hl9,hs,hB,he⟩:=hrel
   obtain ⟨L,hL⟩ : ∃ L,L=b - a:=⟨_,rfl⟩
   have HS1:=Lib.hid hs
   have HW1:=Lib.hid (show w0.heap.size≤wr.heap.size from hs.tn.size)
   have HB0:=Lib.hid hB
   have HE:=Lib.hid he
   have ha9:a<1000000:=by have:=HN.out;omega
   have HAB:=Lib.hid (show a≤b∧b≤n∧n≤1000000∧n<50∧b≤dk.size from ⟨hab,hb,by have:=HN.out;omega,HN.out,by rw [hs.size];exact hb⟩)
   have HLL:=Lib.hid (show L=b - a∧L≤m∧L≤lim + 12∧L<50∧lim<100 by have:=HN.out;omega)
   clear hs hB he
   by_cases h12:L≤12
   ·have z1:decide ((L:Int)≤12)=true:=decide_eq_true (by omega)
    have z2:decide (L≤12)=true:=decide_eq_true h12
    have HI:=Lib.hid (insSort_any HS1.out hab hb HAB.out.2.2.1)
    have HR:=Lib.hid (show insertionSort ltInt dk a b=R by rw [← HE.out,pdq_ins (by omega)])
    have e1:=wr4 (a:=a) (b:=b) (L:=L) (by have:=HAB.out;omega) (by omega)
    clear hab hb hbm hbl hL h12 hl9
    go_wp2_with fail
    refine HI.out.mono ?_
    rintro e w2 ⟨rfl,hs2⟩
    have HS2:=Lib.hid hs2
    clear hs2 HI
    go_wp2_with fail
    refine ⟨rfl,_,results_none (by kernel_rfl) _ _ _,rfl,?_⟩
    rw [← HR.out]
    exact HS2.out
   ·have z1:decide ((L:Int)≤12)=false:=decide_eq_false (by omega)
    have z2:decide (L≤12)=false:=decide_eq_false h12
    obtain ⟨lm,rfl⟩ : ∃ q,lim=q + 1:=⟨lim - 1,by have:=HLL.out;omega⟩
    have zl0:((lm:Int) + 1 == 0)=false:=by simp;omega
    have HL12:=Lib.hid (show ¬ b - a≤12 by omega)
    cases wb with
    | false =>
     as_aux_lemma =>
     obtain ⟨d1,hd1⟩ : ∃ q,q=breakPatterns dk a b:=⟨_,rfl⟩
     have hbL:b=a + L:=by have:=HLL.out;omega
     have hbk:=break_u HS1.out HW1.out (show 8≤L by omega) (show a + L≤n by rw [← hbL];exact HAB.out.2.1) HAB.out.2.2.1
     rw [← hbL,← hd1] at hbk
     have HBK:=Lib.hid hbk
     have HB1:=Lib.hid (show Go.Sort.Below ltInt a b d1 from HB0.out.perm HAB.out.2.2.2.2 (by rw [hd1];exact breakPatterns_holds dk a b HAB.out.1 HAB.out.2.2.2.2))
     have HLM:=Lib.hid (show L≤m∧L≤lm + 13∧b - a=L∧12<L by have:=HLL.out;omega)
     have HPQ:=Lib.hid (fun (p:Nat) (h:Hint) (hc:choosePivot ltInt d1 a b=(p,h)) (hd:h≠.decreasing)=>pdq_long (d:=dk) (d1:=d1) (a:=a) (b:=b) (lim:=lm + 1) (lim1:=lm) (p:=p) (wb:=false) (wp:=wp) (r:=false) (h:=h) HL12.out (Nat.succ_ne_zero _) (by rw [hd1];rfl) rfl hc hd rfl)
     clear hbk hbL hd1
     have e1:=wr4 (a:=a) (b:=b) (L:=L) (by have:=HAB.out;omega) (by have:=HLL.out;omega)
     clear hab hb hbm hbl hL h12 hl9
     obtain ⟨l1,hl1⟩ : ∃ q,q=lm:=⟨_,rfl⟩
     subst hl1
     have l19:l1<100:=by have:=HLL.out;clear e1;omega
     have HL19:=Lib.hid l19
     go_wp2_with fail
     refine HBK.out.mono ?_
     rintro e wd ⟨rfl,hsd⟩
     have HSD:=Lib.hid hsd
     have HWD:=Lib.hid (show w0.heap.size≤wd.heap.size from hsd.tn.size)
     clear hsd HBK
     have HPI:=Lib.hid (pivot_u HSD.out HWD.out (show a + 8≤b by have:=HLM.out;omega) HAB.out.2.1 HAB.out.2.2.1 (show b - a<50 by have:=HAB.out;omega))
     have HPV0:=choosePivot_holds ltInt d1 a b (show a<b by have:=HLM.out;omega)
     obtain ⟨⟨p,hh⟩,hc⟩ : ∃ q,q=choosePivot ltInt d1 a b:=⟨_,rfl⟩
     rw [← hc] at HPI HPV0
     simp only at HPI HPV0
     have HPV:=Lib.hid HPV0
     have HCP:=Lib.hid hc.symm
     have p9:p<1000000:=by have:=HPV.out;have:=HAB.out;omega
     obtain ⟨kh,hkh⟩ : ∃ k,k=hintN hh:=⟨_,rfl⟩
     rw [← hkh] at HPI
     have HKH:=Lib.hid hkh
     clear hc HPV0 hkh
     go_wp2_with fail
     refine HPI.out.mono ?_
     rintro e w2 ⟨rfl,hnd,hs2⟩
     have HND:=Lib.hid hnd
     have HS2:=Lib.hid hs2
     have zk:(kh == 2)=false:=by
      rw [HKH.out]
      cases hh with
      | unknown=>rfl
      | increasing=>rfl
      | decreasing=>exact absurd rfl hnd
     clear hs2 hnd HPI
     obtain ⟨wq,hwq⟩ : ∃ z,z=w2:=⟨_,rfl⟩
     subst hwq
     have HR:=Lib.hid ((HPQ.out p hh HCP.out HND.out).symm.trans HE.out)
     rw [if_neg Bool.false_ne_true] at HR
     clear HPQ
     by_cases ha0:0<a
     ·obtain ⟨am,ham⟩ : ∃ q,q=a - 1:=⟨_,rfl⟩
      have han:am<n∧p<n:=by have:=HAB.out;have:=HPV.out;omega
      have c1:=HS2.out.cell han.1
      have c2:=HS2.out.cell han.2
      have l3:(am:Int)<(n:Int):=Int.ofNat_lt.2 han.1
      have l4:(p:Int)<(n:Int):=Int.ofNat_lt.2 han.2
      have q1:decide ((a:Int) > 0)=true:=decide_eq_true (by omega)
      have q2:decide ((0:Int)<(a:Int))=true:=decide_eq_true (by omega)
      have q3:decide (0<a)=true:=decide_eq_true ha0
      have hm:wrap64 ((a:Int) - 1)=(am:Int):=wr4 (a:=1) (by omega) (by omega)
      have hm2:IntKind.i64.wrap ((a:Int) - 1)=(am:Int):=wr6 (a:=1) (by clear hm;omega) (by clear hm;omega)
      obtain ⟨x,hx⟩ : ∃ x,x=d1[am]!:=⟨_,rfl⟩
      obtain ⟨y,hy⟩ : ∃ y,y=d1[p]!:=⟨_,rfl⟩
      rw [← hx] at c1
      rw [← hy] at c2
      have HXY:=Lib.hid (And.intro hx (And.intro hy ham))
      have HA0:=Lib.hid ha0
      rw [← ham,← hx,← hy] at HR
      clear hx hy ham han
      cases hl:ltInt x y with
      | true =>
       have HRR:=HR
       rw [hl,if_neg (show ¬ ((decide (a > 0) && !true)=true) by simp)] at HRR
       have HL:=fun w=>Lib.hid (less_u hl w)
       clear hl
       go_wp2_with fail
       go_quiet ((go_at_call 267;exact quiet_u (HL _).out))
       have hs3:=HS2.out.drewN nq
       generalize wq.drewN nq=W at hs3 ⊢
       have HS3:=Lib.hid hs3
       clear hs3 c1 c2 HL q1 q2 q3 hm hm2
       have HPT:=Lib.hid (partition_u HS3.out HPV.out.1 HPV.out.2 HAB.out.2.1 HAB.out.2.2.1)
       obtain ⟨⟨mid,ap,d4⟩,hx⟩ : ∃ q,q=partition ltInt d1 a b p:=⟨_,rfl⟩
       have HRP:=Lib.hid (round_part swo_ltInt (partition_holds ltInt) HPV.out.1 HPV.out.2 (show b≤d1.size by rw [HS3.out.size];exact HAB.out.2.1) HB1.out hx.symm)
       rw [← hx] at HPT HRR
       simp only at HPT HRR
       clear hx
       rw [if_pos (And.intro HRP.out.1 HRP.out.2.1)] at HRR
       go_wp2_with fail
       refine HPT.out.mono ?_
       rintro e w4 ⟨rfl,hs4⟩
       have HS4:=Lib.hid hs4
       have HW4:=Lib.hid (show w0.heap.size≤w4.heap.size from hs4.tn.size)
       clear hs4 HPT
       obtain ⟨x1,hx1⟩ : ∃ q,q=mid - a:=⟨_,rfl⟩
       obtain ⟨x2,hx2⟩ : ∃ q,q=b - mid:=⟨_,rfl⟩
       obtain ⟨thr,hth⟩ : ∃ q,q=L / 8:=⟨_,rfl⟩
       have HX12:=Lib.hid (And.intro hx1 (And.intro hx2 hth))
       have hmn:a≤mid∧mid<b∧b<50:=⟨HRP.out.1,HRP.out.2.1,Nat.lt_of_le_of_lt HAB.out.2.1 HAB.out.2.2.2.1⟩
       have HM:=Lib.hid (show mid - a<m∧b - (mid + 1)<m∧mid - a≤l1 + 12∧b - (mid + 1)≤l1 + 12∧a≤mid∧mid≤n∧mid + 1≤b∧b≤n∧b - (mid + 1)<b - a∧mid - a<b - a∧mid≤d4.size∧b≤d4.size by
        have:=HAB.out
        have:=HLM.out
        have:=HS4.out.size
        omega)
       have mid9:mid<1000000:=by omega
       have b9:b<1000000:=by omega
       have thr9:thr<1000000:=by clear e1;have:=HLL.out;omega
       have s3:=wr8d hth
       have S1:=Lib.hid (And.intro (show (mid:Int) - (a:Int)=(x1:Int) by clear e1 s3;omega) (And.intro (show (b:Int) - (mid:Int)=(x2:Int) by clear e1 s3;omega) s3))
       clear s3 e1
       by_cases hlr:x1<x2
       ·have r1:decide ((mid:Int) - (a:Int)<(b:Int) - (mid:Int))=true:=by rw [S1.out.1,S1.out.2.1];exact decide_eq_true (by omega)
        obtain ⟨tb,htb⟩ : ∃ q,q=decide (thr≤x1):=⟨_,rfl⟩
        have t1:decide (((mid:Int) - (a:Int))≥(thr:Int))=tb:=by rw [S1.out.1,htb];exact decide_eq_decide.2 Int.ofNat_le
        have t2:decide ((thr:Int)≤((mid:Int) - (a:Int)))=tb:=by rw [S1.out.1,htb];exact decide_eq_decide.2 Int.ofNat_le
        rw [if_pos (show mid - a<b - mid by rw [← HX12.out.1,← HX12.out.2.1];exact hlr),show decide (mid - a≥(b - a) / 8)=tb by rw [htb,HX12.out.1,HX12.out.2.2,HLM.out.2.2.1]] at HRR
        have HC:=Lib.hid (HIH.out _ _ _ _ _ HS4.out HW4.out HM.out.1 HM.out.2.2.2.2.1 HM.out.2.2.2.2.2.1 HM.out.2.2.1 HL19.out HRP.out.2.2.2.1)
        have HQ:=Lib.hid (pdq_sorts ltInt swo_ltInt d4 a mid l1 true true HM.out.2.2.2.2.1 HM.out.2.2.2.2.2.2.2.2.2.2.1 HRP.out.2.2.2.1)
        have s3:=S1.out.2.2
        clear hx1 hx2 hth hlr hmn htb
        go_wp2_with fail
        refine HC.out.mono ?_
        rintro e w5 ⟨rfl,hs5⟩
        have HS5:=Lib.hid hs5
        clear hs5 HC
        go_wp2_with fail
        go_roundw
        case rel=>exact ⟨mid + 1,b,l1,tb,ap,_,by go_num,rfl,rfl,rfl,rfl,HM.out.2.2.2.2.2.2.1,HM.out.2.2.2.2.2.2.2.1,Nat.le_of_lt HM.out.2.1,HM.out.2.2.2.1,HL19.out,HS5.out,(HRP.out.2.2.2.2.2.1 _ HQ.out.1 HQ.out.2).1,HRR.out⟩
        case measure=>simp [intOf];exact HM.out.2.2.2.2.2.2.2.2.1
       ·have r1:decide ((mid:Int) - (a:Int)<(b:Int) - (mid:Int))=false:=by rw [S1.out.1,S1.out.2.1];exact decide_eq_false (by omega)
        obtain ⟨tb,htb⟩ : ∃ q,q=decide (thr≤x2):=⟨_,rfl⟩
        have t1:decide (((b:Int) - (mid:Int))≥(thr:Int))=tb:=by rw [S1.out.2.1,htb];exact decide_eq_decide.2 Int.ofNat_le
        have t2:decide ((thr:Int)≤((b:Int) - (mid:Int)))=tb:=by rw [S1.out.2.1,htb];exact decide_eq_decide.2 Int.ofNat_le
        rw [if_neg (show ¬ mid - a<b - mid by rw [← HX12.out.1,← HX12.out.2.1];exact hlr),show decide (b - mid≥(b - a) / 8)=tb by rw [htb,HX12.out.2.1,HX12.out.2.2,HLM.out.2.2.1]] at HRR
        have HC:=Lib.hid (HIH.out _ _ _ _ _ HS4.out HW4.out HM.out.2.1 HM.out.2.2.2.2.2.2.1 HM.out.2.2.2.2.2.2.2.1 HM.out.2.2.2.1 HL19.out HRP.out.2.2.2.2.1)
        have HQ:=Lib.hid (pdq_sorts ltInt swo_ltInt d4 (mid + 1) b l1 true true HM.out.2.2.2.2.2.2.1 HM.out.2.2.2.2.2.2.2.2.2.2.2 HRP.out.2.2.2.2.1)
        have s3:=S1.out.2.2
        clear hx1 hx2 hth hlr hmn htb
        go_wp2_with fail
        refine HC.out.mono ?_
        rintro e w5 ⟨rfl,hs5⟩
        have HS5:=Lib.hid hs5
        clear hs5 HC
        go_wp2_with fail
        go_roundw
        case rel=>exact ⟨a,mid,l1,tb,ap,_,rfl,rfl,rfl,rfl,rfl,HM.out.2.2.2.2.1,HM.out.2.2.2.2.2.1,Nat.le_of_lt HM.out.1,HM.out.2.2.1,HL19.out,HS5.out,(HRP.out.2.2.2.2.2.2 _ HQ.out.1 HQ.out.2).1,HRR.out⟩
        case measure=>simp [intOf];exact HM.out.2.2.2.2.2.2.2.2.2.1
      | false =>
       have HRR:=HR
       rw [hl,if_pos (show (decide (a > 0) && !false)=true by simp [HA0.out])] at HRR
       have HNL:=Lib.hid (show ltInt d1[a - 1]! d1[p]! = false by rw [← HXY.out.2.2,← HXY.out.1,← HXY.out.2.1,hl])
       have HL:=fun w=>Lib.hid (less_u hl w)
       clear hl
       go_wp2_with fail
       go_quiet ((go_at_call 267;exact quiet_u (HL _).out))
       have hs3:=HS2.out.drewN nq
       generalize wq.drewN nq=W at hs3 ⊢
       have HS3:=Lib.hid hs3
       clear hs3 c1 c2 HL q1 q2 q3 hm hm2
       have HPT:=Lib.hid (partEqual_u HS3.out HPV.out.1 HPV.out.2 HAB.out.2.1 HAB.out.2.2.1)
       obtain ⟨⟨mid,d4⟩,hx⟩ : ∃ q,q=partitionEqual ltInt d1 a b p:=⟨_,rfl⟩
       have HRP:=Lib.hid (round_eq swo_ltInt (partitionEqual_holds ltInt) HA0.out HPV.out.1 HPV.out.2 (show b≤d1.size by rw [HS3.out.size];exact HAB.out.2.1) HB1.out HNL.out hx.symm)
       rw [← hx] at HPT HRR
       simp only at HPT HRR
       clear hx
       rw [if_pos (And.intro HRP.out.1 HRP.out.2.1)] at HRR
       have HM:=Lib.hid (show b - mid≤m∧b - mid≤l1 + 12∧b - mid<b - a by
        have:=HRP.out.1
        have:=HRP.out.2.1
        have:=HAB.out
        have:=HLM.out
        clear e1
        omega)
       go_wp2_with fail
       refine HPT.out.mono ?_
       rintro e w4 ⟨rfl,hs4⟩
       have HS4:=Lib.hid hs4
       clear hs4 HPT
       go_wp2_with fail
       go_roundw
       case rel=>exact ⟨mid,b,l1,false,wp,d4,rfl,rfl,rfl,rfl,rfl,HRP.out.2.1,HAB.out.2.1,HM.out.1,HM.out.2.1,HL19.out,HS4.out,HRP.out.2.2.2.1,HRR.out⟩
       case measure=>simp [intOf];exact HM.out.2.2
     ·have q1:decide ((a:Int) > 0)=false:=decide_eq_false (by omega)
      have q2:decide ((0:Int)<(a:Int))=false:=decide_eq_false (by omega)
      have q3:decide (0<a)=false:=decide_eq_false ha0
      have HRR:=HR
      rw [if_neg (show ¬ ((decide (a > 0) && !ltInt d1[a - 1]! d1[p]!)=true) by simp;intro h;exact absurd h ha0)] at HRR
      clear ha0
      go_wp2_with fail
      go_quiet (fail)
      have hs3:=HS2.out.drewN nq
      generalize wq.drewN nq=W at hs3 ⊢
      have HS3:=Lib.hid hs3
      clear hs3 q1 q2 q3
      have HPT:=Lib.hid (partition_u HS3.out HPV.out.1 HPV.out.2 HAB.out.2.1 HAB.out.2.2.1)
      obtain ⟨⟨mid,ap,d4⟩,hx⟩ : ∃ q,q=partition ltInt d1 a b p:=⟨_,rfl⟩
      have HRP:=Lib.hid (round_part swo_ltInt (partition_holds ltInt) HPV.out.1 HPV.out.2 (show b≤d1.size by rw [HS3.out.size];exact HAB.out.2.1) HB1.out hx.symm)
      rw [← hx] at HPT HRR
      simp only at HPT HRR
      clear hx
      rw [if_pos (And.intro HRP.out.1 HRP.out.2.1)] at HRR
      go_wp2_with fail
      refine HPT.out.mono ?_
      rintro e w4 ⟨rfl,hs4⟩
      have HS4:=Lib.hid hs4
      have HW4:=Lib.hid (show w0.heap.size≤w4.heap.size from hs4.tn.size)
      clear hs4 HPT
      obtain ⟨x1,hx1⟩ : ∃ q,q=mid - a:=⟨_,rfl⟩
      obtain ⟨x2,hx2⟩ : ∃ q,q=b - mid:=⟨_,rfl⟩
      obtain ⟨thr,hth⟩ : ∃ q,q=L / 8:=⟨_,rfl⟩
      have HX12:=Lib.hid (And.intro hx1 (And.intro hx2 hth))
      have hmn:a≤mid∧mid<b∧b<50:=⟨HRP.out.1,HRP.out.2.1,Nat.lt_of_le_of_lt HAB.out.2.1 HAB.out.2.2.2.1⟩
      have HM:=Lib.hid (show mid - a<m∧b - (mid + 1)<m∧mid - a≤l1 + 12∧b - (mid + 1)≤l1 + 12∧a≤mid∧mid≤n∧mid + 1≤b∧b≤n∧b - (mid + 1)<b - a∧mid - a<b - a∧mid≤d4.size∧b≤d4.size by
       have:=HAB.out
       have:=HLM.out
       have:=HS4.out.size
       omega)
      have mid9:mid<1000000:=by omega
      have b9:b<1000000:=by omega
      have thr9:thr<1000000:=by clear e1;have:=HLL.out;omega
      have s3:=wr8d hth
      have S1:=Lib.hid (And.intro (show (mid:Int) - (a:Int)=(x1:Int) by clear e1 s3;omega) (And.intro (show (b:Int) - (mid:Int)=(x2:Int) by clear e1 s3;omega) s3))
      clear s3 e1
      by_cases hlr:x1<x2
      ·have r1:decide ((mid:Int) - (a:Int)<(b:Int) - (mid:Int))=true:=by rw [S1.out.1,S1.out.2.1];exact decide_eq_true (by omega)
       obtain ⟨tb,htb⟩ : ∃ q,q=decide (thr≤x1):=⟨_,rfl⟩
       have t1:decide (((mid:Int) - (a:Int))≥(thr:Int))=tb:=by rw [S1.out.1,htb];exact decide_eq_decide.2 Int.ofNat_le
       have t2:decide ((thr:Int)≤((mid:Int) - (a:Int)))=tb:=by rw [S1.out.1,htb];exact decide_eq_decide.2 Int.ofNat_le
       rw [if_pos (show mid - a<b - mid by rw [← HX12.out.1,← HX12.out.2.1];exact hlr),show decide (mid - a≥(b - a) / 8)=tb by rw [htb,HX12.out.1,HX12.out.2.2,HLM.out.2.2.1]] at HRR
       have HC:=Lib.hid (HIH.out _ _ _ _ _ HS4.out HW4.out HM.out.1 HM.out.2.2.2.2.1 HM.out.2.2.2.2.2.1 HM.out.2.2.1 HL19.out HRP.out.2.2.2.1)
       have HQ:=Lib.hid (pdq_sorts ltInt swo_ltInt d4 a mid l1 true true HM.out.2.2.2.2.1 HM.out.2.2.2.2.2.2.2.2.2.2.1 HRP.out.2.2.2.1)
       have s3:=S1.out.2.2
       clear hx1 hx2 hth hlr hmn htb
       go_wp2_with fail
       refine HC.out.mono ?_
       rintro e w5 ⟨rfl,hs5⟩
       have HS5:=Lib.hid hs5
       clear hs5 HC
       go_wp2_with fail
       go_roundw
       case rel=>exact ⟨mid + 1,b,l1,tb,ap,_,by go_num,rfl,rfl,rfl,rfl,HM.out.2.2.2.2.2.2.1,HM.out.2.2.2.2.2.2.2.1,Nat.le_of_lt HM.out.2.1,HM.out.2.2.2.1,HL19.out,HS5.out,(HRP.out.2.2.2.2.2.1 _ HQ.out.1 HQ.out.2).1,HRR.out⟩
       case measure=>simp [intOf];exact HM.out.2.2.2.2.2.2.2.2.1
      ·have r1:decide ((mid:Int) - (a:Int)<(b:Int) - (mid:Int))=false:=by rw [S1.out.1,S1.out.2.1];exact decide_eq_false (by omega)
       obtain ⟨tb,htb⟩ : ∃ q,q=decide (thr≤x2):=⟨_,rfl⟩
       have t1:decide (((b:Int) - (mid:Int))≥(thr:Int))=tb:=by rw [S1.out.2.1,htb];exact decide_eq_decide.2 Int.ofNat_le
       have t2:decide ((thr:Int)≤((b:Int) - (mid:Int)))=tb:=by rw [S1.out.2.1,htb];exact decide_eq_decide.2 Int.ofNat_le
       rw [if_neg (show ¬ mid - a<b - mid by rw [← HX12.out.1,← HX12.out.2.1];exact hlr),show decide (b - mid≥(b - a) / 8)=tb by rw [htb,HX12.out.2.1,HX12.out.2.2,HLM.out.2.2.1]] at HRR
       have HC:=Lib.hid (HIH.out _ _ _ _ _ HS4.out HW4.out HM.out.2.1 HM.out.2.2.2.2.2.2.1 HM.out.2.2.2.2.2.2.2.1 HM.out.2.2.2.1 HL19.out HRP.out.2.2.2.2.1)
       have HQ:=Lib.hid (pdq_sorts ltInt swo_ltInt d4 (mid + 1) b l1 true true HM.out.2.2.2.2.2.2.1 HM.out.2.2.2.2.2.2.2.2.2.2.2 HRP.out.2.2.2.2.1)
       have s3:=S1.out.2.2
       clear hx1 hx2 hth hlr hmn htb
       go_wp2_with fail
       refine HC.out.mono ?_
       rintro e w5 ⟨rfl,hs5⟩
       have HS5:=Lib.hid hs5
       clear hs5 HC
       go_wp2_with fail
       go_roundw
       case rel=>exact ⟨a,mid,l1,tb,ap,_,rfl,rfl,rfl,rfl,rfl,HM.out.2.2.2.2.1,HM.out.2.2.2.2.2.1,Nat.le_of_lt HM.out.1,HM.out.2.2.1,HL19.out,HS5.out,(HRP.out.2.2.2.2.2.2 _ HQ.out.1 HQ.out.2).1,HRR.out⟩
       case measure=>simp [intOf];exact HM.out.2.2.2.2.2.2.2.2.2.1
    | true =>
     obtain ⟨d1,hd1⟩ : ∃ q,q=dk:=⟨_,rfl⟩
     subst hd1
     have HB1:=HB0
     have HSD:=HS1
     have HWD:=HW1
     obtain ⟨l1,hl1⟩ : ∃ q,q=lm + 1:=⟨_,rfl⟩
     have HLM:=Lib.hid (show L≤m∧L≤l1 + 13∧b - a=L∧12<L by have:=HLL.out;omega)
     have HL19:=Lib.hid (show l1<100 by have:=HLL.out;omega)
     rw [← hl1] at HE ⊢
     have zl1:((l1:Int) == 0)=false:=by simp;omega
     have HL0:=Lib.hid (show ¬ l1=0 by omega)
     clear hl1 zl0
     have e1:=wr4 (a:=a) (b:=b) (L:=L) (by have:=HAB.out;omega) (by have:=HLL.out;omega)
     clear hab hb hbm hbl hL h12 hl9
     have HPI:=Lib.hid (pivot_u HSD.out HWD.out (show a + 8≤b by have:=HLM.out;omega) HAB.out.2.1 HAB.out.2.2.1 (show b - a<50 by have:=HAB.out;omega))
     have HPV0:=choosePivot_holds ltInt d1 a b (show a<b by have:=HLM.out;omega)
     obtain ⟨⟨p,hh⟩,hc⟩ : ∃ q,q=choosePivot ltInt d1 a b:=⟨_,rfl⟩
     rw [← hc] at HPI HPV0
     simp only at HPI HPV0
     have HPV:=Lib.hid HPV0
     have HCP:=Lib.hid hc.symm
     have p9:p<1000000:=by have:=HPV.out;have:=HAB.out;omega
     obtain ⟨kh,hkh⟩ : ∃ k,k=hintN hh:=⟨_,rfl⟩
     rw [← hkh] at HPI
     have HKH:=Lib.hid hkh
     clear hc HPV0 hkh
     cases wp with
     | false =>
      as_aux_lemma =>
      go_wp2_with fail
      refine HPI.out.mono ?_
      rintro e w2 ⟨rfl,hnd,hs2⟩
      have HND:=Lib.hid hnd
      have HS2:=Lib.hid hs2
      have zk:(kh == 2)=false:=by
       rw [HKH.out]
       cases hh with
       | unknown=>rfl
       | increasing=>rfl
       | decreasing=>exact absurd rfl hnd
      clear hs2 hnd HPI
      obtain ⟨wq,hwq⟩ : ∃ z,z=w2:=⟨_,rfl⟩
      subst hwq
      have HR:=Lib.hid ((pdq_long (d:=d1) (d1:=d1) (a:=a) (b:=b) (lim:=l1) (lim1:=l1) (p:=p) (wb:=true) (wp:=false) (r:=false) (h:=hh) HL12.out HL0.out rfl rfl HCP.out HND.out rfl).symm.trans HE.out)
      rw [if_neg Bool.false_ne_true] at HR
      by_cases ha0:0<a
      ·obtain ⟨am,ham⟩ : ∃ q,q=a - 1:=⟨_,rfl⟩
       have han:am<n∧p<n:=by have:=HAB.out;have:=HPV.out;omega
       have c1:=HS2.out.cell han.1
       have c2:=HS2.out.cell han.2
       have l3:(am:Int)<(n:Int):=Int.ofNat_lt.2 han.1
       have l4:(p:Int)<(n:Int):=Int.ofNat_lt.2 han.2
       have q1:decide ((a:Int) > 0)=true:=decide_eq_true (by omega)
       have q2:decide ((0:Int)<(a:Int))=true:=decide_eq_true (by omega)
       have q3:decide (0<a)=true:=decide_eq_true ha0
       have hm:wrap64 ((a:Int) - 1)=(am:Int):=wr4 (a:=1) (by omega) (by omega)
       have hm2:IntKind.i64.wrap ((a:Int) - 1)=(am:Int):=wr6 (a:=1) (by clear hm;omega) (by clear hm;omega)
       obtain ⟨x,hx⟩ : ∃ x,x=d1[am]!:=⟨_,rfl⟩
       obtain ⟨y,hy⟩ : ∃ y,y=d1[p]!:=⟨_,rfl⟩
       rw [← hx] at c1
       rw [← hy] at c2
       have HXY:=Lib.hid (And.intro hx (And.intro hy ham))
       have HA0:=Lib.hid ha0
       rw [← ham,← hx,← hy] at HR
       clear hx hy ham han
       cases hl:ltInt x y with
       | true =>
        have HRR:=HR
        rw [hl,if_neg (show ¬ ((decide (a > 0) && !true)=true) by simp)] at HRR
        have HL:=fun w=>Lib.hid (less_u hl w)
        clear hl
        go_wp2_with fail
        go_quiet ((go_at_call 267;exact quiet_u (HL _).out))
        have hs3:=HS2.out.drewN nq
        generalize wq.drewN nq=W at hs3 ⊢
        have HS3:=Lib.hid hs3
        clear hs3 c1 c2 HL q1 q2 q3 hm hm2
        have HPT:=Lib.hid (partition_u HS3.out HPV.out.1 HPV.out.2 HAB.out.2.1 HAB.out.2.2.1)
        obtain ⟨⟨mid,ap,d4⟩,hx⟩ : ∃ q,q=partition ltInt d1 a b p:=⟨_,rfl⟩
        have HRP:=Lib.hid (round_part swo_ltInt (partition_holds ltInt) HPV.out.1 HPV.out.2 (show b≤d1.size by rw [HS3.out.size];exact HAB.out.2.1) HB1.out hx.symm)
        rw [← hx] at HPT HRR
        simp only at HPT HRR
        clear hx
        rw [if_pos (And.intro HRP.out.1 HRP.out.2.1)] at HRR
        go_wp2_with fail
        refine HPT.out.mono ?_
        rintro e w4 ⟨rfl,hs4⟩
        have HS4:=Lib.hid hs4
        have HW4:=Lib.hid (show w0.heap.size≤w4.heap.size from hs4.tn.size)
        clear hs4 HPT
        obtain ⟨x1,hx1⟩ : ∃ q,q=mid - a:=⟨_,rfl⟩
        obtain ⟨x2,hx2⟩ : ∃ q,q=b - mid:=⟨_,rfl⟩
        obtain ⟨thr,hth⟩ : ∃ q,q=L / 8:=⟨_,rfl⟩
        have HX12:=Lib.hid (And.intro hx1 (And.intro hx2 hth))
        have hmn:a≤mid∧mid<b∧b<50:=⟨HRP.out.1,HRP.out.2.1,Nat.lt_of_le_of_lt HAB.out.2.1 HAB.out.2.2.2.1⟩
        have HM:=Lib.hid (show mid - a<m∧b - (mid + 1)<m∧mid - a≤l1 + 12∧b - (mid + 1)≤l1 + 12∧a≤mid∧mid≤n∧mid + 1≤b∧b≤n∧b - (mid + 1)<b - a∧mid - a<b - a∧mid≤d4.size∧b≤d4.size by
         have:=HAB.out
         have:=HLM.out
         have:=HS4.out.size
         omega)
        have mid9:mid<1000000:=by omega
        have b9:b<1000000:=by omega
        have thr9:thr<1000000:=by clear e1;have:=HLL.out;omega
        have s3:=wr8d hth
        have S1:=Lib.hid (And.intro (show (mid:Int) - (a:Int)=(x1:Int) by clear e1 s3;omega) (And.intro (show (b:Int) - (mid:Int)=(x2:Int) by clear e1 s3;omega) s3))
        clear s3 e1
        by_cases hlr:x1<x2
        ·have r1:decide ((mid:Int) - (a:Int)<(b:Int) - (mid:Int))=true:=by rw [S1.out.1,S1.out.2.1];exact decide_eq_true (by omega)
         obtain ⟨tb,htb⟩ : ∃ q,q=decide (thr≤x1):=⟨_,rfl⟩
         have t1:decide (((mid:Int) - (a:Int))≥(thr:Int))=tb:=by rw [S1.out.1,htb];exact decide_eq_decide.2 Int.ofNat_le
         have t2:decide ((thr:Int)≤((mid:Int) - (a:Int)))=tb:=by rw [S1.out.1,htb];exact decide_eq_decide.2 Int.ofNat_le
         rw [if_pos (show mid - a<b - mid by rw [← HX12.out.1,← HX12.out.2.1];exact hlr),show decide (mid - a≥(b - a) / 8)=tb by rw [htb,HX12.out.1,HX12.out.2.2,HLM.out.2.2.1]] at HRR
         have HC:=Lib.hid (HIH.out _ _ _ _ _ HS4.out HW4.out HM.out.1 HM.out.2.2.2.2.1 HM.out.2.2.2.2.2.1 HM.out.2.2.1 HL19.out HRP.out.2.2.2.1)
         have HQ:=Lib.hid (pdq_sorts ltInt swo_ltInt d4 a mid l1 true true HM.out.2.2.2.2.1 HM.out.2.2.2.2.2.2.2.2.2.2.1 HRP.out.2.2.2.1)
         have s3:=S1.out.2.2
         clear hx1 hx2 hth hlr hmn htb
         go_wp2_with fail
         refine HC.out.mono ?_
         rintro e w5 ⟨rfl,hs5⟩
         have HS5:=Lib.hid hs5
         clear hs5 HC
         go_wp2_with fail
         go_roundw
         case rel=>exact ⟨mid + 1,b,l1,tb,ap,_,by go_num,rfl,rfl,rfl,rfl,HM.out.2.2.2.2.2.2.1,HM.out.2.2.2.2.2.2.2.1,Nat.le_of_lt HM.out.2.1,HM.out.2.2.2.1,HL19.out,HS5.out,(HRP.out.2.2.2.2.2.1 _ HQ.out.1 HQ.out.2).1,HRR.out⟩
         case measure=>simp [intOf];exact HM.out.2.2.2.2.2.2.2.2.1
        ·have r1:decide ((mid:Int) - (a:Int)<(b:Int) - (mid:Int))=false:=by rw [S1.out.1,S1.out.2.1];exact decide_eq_false (by omega)
         obtain ⟨tb,htb⟩ : ∃ q,q=decide (thr≤x2):=⟨_,rfl⟩
         have t1:decide (((b:Int) - (mid:Int))≥(thr:Int))=tb:=by rw [S1.out.2.1,htb];exact decide_eq_decide.2 Int.ofNat_le
         have t2:decide ((thr:Int)≤((b:Int) - (mid:Int)))=tb:=by rw [S1.out.2.1,htb];exact decide_eq_decide.2 Int.ofNat_le
         rw [if_neg (show ¬ mid - a<b - mid by rw [← HX12.out.1,← HX12.out.2.1];exact hlr),show decide (b - mid≥(b - a) / 8)=tb by rw [htb,HX12.out.2.1,HX12.out.2.2,HLM.out.2.2.1]] at HRR
         have HC:=Lib.hid (HIH.out _ _ _ _ _ HS4.out HW4.out HM.out.2.1 HM.out.2.2.2.2.2.2.1 HM.out.2.2.2.2.2.2.2.1 HM.out.2.2.2.1 HL19.out HRP.out.2.2.2.2.1)
         have HQ:=Lib.hid (pdq_sorts ltInt swo_ltInt d4 (mid + 1) b l1 true true HM.out.2.2.2.2.2.2.1 HM.out.2.2.2.2.2.2.2.2.2.2.2 HRP.out.2.2.2.2.1)
         have s3:=S1.out.2.2
         clear hx1 hx2 hth hlr hmn htb
         go_wp2_with fail
         refine HC.out.mono ?_
         rintro e w5 ⟨rfl,hs5⟩
         have HS5:=Lib.hid hs5
         clear hs5 HC
         go_wp2_with fail
         go_roundw
         case rel=>exact ⟨a,mid,l1,tb,ap,_,rfl,rfl,rfl,rfl,rfl,HM.out.2.2.2.2.1,HM.out.2.2.2.2.2.1,Nat.le_of_lt HM.out.1,HM.out.2.2.1,HL19.out,HS5.out,(HRP.out.2.2.2.2.2.2 _ HQ.out.1 HQ.out.2).1,HRR.out⟩
         case measure=>simp [intOf];exact HM.out.2.2.2.2.2.2.2.2.2.1
       | false =>
        have HRR:=HR
        rw [hl,if_pos (show (decide (a > 0) && !false)=true by simp [HA0.out])] at HRR
        have HNL:=Lib.hid (show ltInt d1[a - 1]! d1[p]! = false by rw [← HXY.out.2.2,← HXY.out.1,← HXY.out.2.1,hl])
        have HL:=fun w=>Lib.hid (less_u hl w)
        clear hl
        go_wp2_with fail
        go_quiet ((go_at_call 267;exact quiet_u (HL _).out))
        have hs3:=HS2.out.drewN nq
        generalize wq.drewN nq=W at hs3 ⊢
        have HS3:=Lib.hid hs3
        clear hs3 c1 c2 HL q1 q2 q3 hm hm2
        have HPT:=Lib.hid (partEqual_u HS3.out HPV.out.1 HPV.out.2 HAB.out.2.1 HAB.out.2.2.1)
        obtain ⟨⟨mid,d4⟩,hx⟩ : ∃ q,q=partitionEqual ltInt d1 a b p:=⟨_,rfl⟩
        have HRP:=Lib.hid (round_eq swo_ltInt (partitionEqual_holds ltInt) HA0.out HPV.out.1 HPV.out.2 (show b≤d1.size by rw [HS3.out.size];exact HAB.out.2.1) HB1.out HNL.out hx.symm)
        rw [← hx] at HPT HRR
        simp only at HPT HRR
        clear hx
        rw [if_pos (And.intro HRP.out.1 HRP.out.2.1)] at HRR
        have HM:=Lib.hid (show b - mid≤m∧b - mid≤l1 + 12∧b - mid<b - a by
         have:=HRP.out.1
         have:=HRP.out.2.1
         have:=HAB.out
         have:=HLM.out
         clear e1
         omega)
        go_wp2_with fail
        refine HPT.out.mono ?_
        rintro e w4 ⟨rfl,hs4⟩
        have HS4:=Lib.hid hs4
        clear hs4 HPT
        go_wp2_with fail
        go_roundw
        case rel=>exact ⟨mid,b,l1,true,false,d4,rfl,rfl,rfl,rfl,rfl,HRP.out.2.1,HAB.out.2.1,HM.out.1,HM.out.2.1,HL19.out,HS4.out,HRP.out.2.2.2.1,HRR.out⟩
        case measure=>simp [intOf];exact HM.out.2.2
      ·have q1:decide ((a:Int) > 0)=false:=decide_eq_false (by omega)
       have q2:decide ((0:Int)<(a:Int))=false:=decide_eq_false (by omega)
       have q3:decide (0<a)=false:=decide_eq_false ha0
       have HRR:=HR
       rw [if_neg (show ¬ ((decide (a > 0) && !ltInt d1[a - 1]! d1[p]!)=true) by simp;intro h;exact absurd h ha0)] at HRR
       clear ha0
       go_wp2_with fail
       go_quiet (fail)
       have hs3:=HS2.out.drewN nq
       generalize wq.drewN nq=W at hs3 ⊢
       have HS3:=Lib.hid hs3
       clear hs3 q1 q2 q3
       have HPT:=Lib.hid (partition_u HS3.out HPV.out.1 HPV.out.2 HAB.out.2.1 HAB.out.2.2.1)
       obtain ⟨⟨mid,ap,d4⟩,hx⟩ : ∃ q,q=partition ltInt d1 a b p:=⟨_,rfl⟩
       have HRP:=Lib.hid (round_part swo_ltInt (partition_holds ltInt) HPV.out.1 HPV.out.2 (show b≤d1.size by rw [HS3.out.size];exact HAB.out.2.1) HB1.out hx.symm)
       rw [← hx] at HPT HRR
       simp only at HPT HRR
       clear hx
       rw [if_pos (And.intro HRP.out.1 HRP.out.2.1)] at HRR
       go_wp2_with fail
       refine HPT.out.mono ?_
       rintro e w4 ⟨rfl,hs4⟩
       have HS4:=Lib.hid hs4
       have HW4:=Lib.hid (show w0.heap.size≤w4.heap.size from hs4.tn.size)
       clear hs4 HPT
       obtain ⟨x1,hx1⟩ : ∃ q,q=mid - a:=⟨_,rfl⟩
       obtain ⟨x2,hx2⟩ : ∃ q,q=b - mid:=⟨_,rfl⟩
       obtain ⟨thr,hth⟩ : ∃ q,q=L / 8:=⟨_,rfl⟩
       have HX12:=Lib.hid (And.intro hx1 (And.intro hx2 hth))
       have hmn:a≤mid∧mid<b∧b<50:=⟨HRP.out.1,HRP.out.2.1,Nat.lt_of_le_of_lt HAB.out.2.1 HAB.out.2.2.2.1⟩
       have HM:=Lib.hid (show mid - a<m∧b - (mid + 1)<m∧mid - a≤l1 + 12∧b - (mid + 1)≤l1 + 12∧a≤mid∧mid≤n∧mid + 1≤b∧b≤n∧b - (mid + 1)<b - a∧mid - a<b - a∧mid≤d4.size∧b≤d4.size by
        have:=HAB.out
        have:=HLM.out
        have:=HS4.out.size
        omega)
       have mid9:mid<1000000:=by omega
       have b9:b<1000000:=by omega
       have thr9:thr<1000000:=by clear e1;have:=HLL.out;omega
       have s3:=wr8d hth
       have S1:=Lib.hid (And.intro (show (mid:Int) - (a:Int)=(x1:Int) by clear e1 s3;omega) (And.intro (show (b:Int) - (mid:Int)=(x2:Int) by clear e1 s3;omega) s3))
       clear s3 e1
       by_cases hlr:x1<x2
       ·have r1:decide ((mid:Int) - (a:Int)<(b:Int) - (mid:Int))=true:=by rw [S1.out.1,S1.out.2.1];exact decide_eq_true (by omega)
        obtain ⟨tb,htb⟩ : ∃ q,q=decide (thr≤x1):=⟨_,rfl⟩
        have t1:decide (((mid:Int) - (a:Int))≥(thr:Int))=tb:=by rw [S1.out.1,htb];exact decide_eq_decide.2 Int.ofNat_le
        have t2:decide ((thr:Int)≤((mid:Int) - (a:Int)))=tb:=by rw [S1.out.1,htb];exact decide_eq_decide.2 Int.ofNat_le
        rw [if_pos (show mid - a<b - mid by rw [← HX12.out.1,← HX12.out.2.1];exact hlr),show decide (mid - a≥(b - a) / 8)=tb by rw [htb,HX12.out.1,HX12.out.2.2,HLM.out.2.2.1]] at HRR
        have HC:=Lib.hid (HIH.out _ _ _ _ _ HS4.out HW4.out HM.out.1 HM.out.2.2.2.2.1 HM.out.2.2.2.2.2.1 HM.out.2.2.1 HL19.out HRP.out.2.2.2.1)
        have HQ:=Lib.hid (pdq_sorts ltInt swo_ltInt d4 a mid l1 true true HM.out.2.2.2.2.1 HM.out.2.2.2.2.2.2.2.2.2.2.1 HRP.out.2.2.2.1)
        have s3:=S1.out.2.2
        clear hx1 hx2 hth hlr hmn htb
        go_wp2_with fail
        refine HC.out.mono ?_
        rintro e w5 ⟨rfl,hs5⟩
        have HS5:=Lib.hid hs5
        clear hs5 HC
        go_wp2_with fail
        go_roundw
        case rel=>exact ⟨mid + 1,b,l1,tb,ap,_,by go_num,rfl,rfl,rfl,rfl,HM.out.2.2.2.2.2.2.1,HM.out.2.2.2.2.2.2.2.1,Nat.le_of_lt HM.out.2.1,HM.out.2.2.2.1,HL19.out,HS5.out,(HRP.out.2.2.2.2.2.1 _ HQ.out.1 HQ.out.2).1,HRR.out⟩
        case measure=>simp [intOf];exact HM.out.2.2.2.2.2.2.2.2.1
       ·have r1:decide ((mid:Int) - (a:Int)<(b:Int) - (mid:Int))=false:=by rw [S1.out.1,S1.out.2.1];exact decide_eq_false (by omega)
        obtain ⟨tb,htb⟩ : ∃ q,q=decide (thr≤x2):=⟨_,rfl⟩
        have t1:decide (((b:Int) - (mid:Int))≥(thr:Int))=tb:=by rw [S1.out.2.1,htb];exact decide_eq_decide.2 Int.ofNat_le
        have t2:decide ((thr:Int)≤((b:Int) - (mid:Int)))=tb:=by rw [S1.out.2.1,htb];exact decide_eq_decide.2 Int.ofNat_le
        rw [if_neg (show ¬ mid - a<b - mid by rw [← HX12.out.1,← HX12.out.2.1];exact hlr),show decide (b - mid≥(b - a) / 8)=tb by rw [htb,HX12.out.2.1,HX12.out.2.2,HLM.out.2.2.1]] at HRR
        have HC:=Lib.hid (HIH.out _ _ _ _ _ HS4.out HW4.out HM.out.2.1 HM.out.2.2.2.2.2.2.1 HM.out.2.2.2.2.2.2.2.1 HM.out.2.2.2.1 HL19.out HRP.out.2.2.2.2.1)
        have HQ:=Lib.hid (pdq_sorts ltInt swo_ltInt d4 (mid + 1) b l1 true true HM.out.2.2.2.2.2.2.1 HM.out.2.2.2.2.2.2.2.2.2.2.2 HRP.out.2.2.2.2.1)
        have s3:=S1.out.2.2
        clear hx1 hx2 hth hlr hmn htb
        go_wp2_with fail
        refine HC.out.mono ?_
        rintro e w5 ⟨rfl,hs5⟩
        have HS5:=Lib.hid hs5
        clear hs5 HC
        go_wp2_with fail
        go_roundw
        case rel=>exact ⟨a,mid,l1,tb,ap,_,rfl,rfl,rfl,rfl,rfl,HM.out.2.2.2.2.1,HM.out.2.2.2.2.2.1,Nat.le_of_lt HM.out.1,HM.out.2.2.1,HL19.out,HS5.out,(HRP.out.2.2.2.2.2.2 _ HQ.out.1 HQ.out.2).1,HRR.out⟩
        case measure=>simp [intOf];exact HM.out.2.2.2.2.2.2.2.2.2.1
     | true =>
      cases hh with
      | decreasing =>
       go_wp2_with fail
       refine HPI.out.mono ?_
       rintro e w2 ⟨rfl,hnd,hs2⟩
       exact absurd rfl hnd
      | unknown =>
       as_aux_lemma =>
       have zk1:(kh == 1)=false:=by rw [HKH.out];rfl
       go_wp2_with fail
       refine HPI.out.mono ?_
       rintro e w2 ⟨rfl,hnd,hs2⟩
       have HND:=Lib.hid hnd
       have HS2:=Lib.hid hs2
       have zk:(kh == 2)=false:=by rw [HKH.out];rfl
       clear hs2 hnd HPI
       obtain ⟨wq,hwq⟩ : ∃ z,z=w2:=⟨_,rfl⟩
       subst hwq
       have HR:=Lib.hid ((pdq_long (d:=d1) (d1:=d1) (a:=a) (b:=b) (lim:=l1) (lim1:=l1) (p:=p) (wb:=true) (wp:=true) (r:=false) (h:=.unknown) HL12.out HL0.out rfl rfl HCP.out HND.out rfl).symm.trans HE.out)
       rw [if_neg Bool.false_ne_true] at HR
       by_cases ha0:0<a
       ·obtain ⟨am,ham⟩ : ∃ q,q=a - 1:=⟨_,rfl⟩
        have han:am<n∧p<n:=by have:=HAB.out;have:=HPV.out;omega
        have c1:=HS2.out.cell han.1
        have c2:=HS2.out.cell han.2
        have l3:(am:Int)<(n:Int):=Int.ofNat_lt.2 han.1
        have l4:(p:Int)<(n:Int):=Int.ofNat_lt.2 han.2
        have q1:decide ((a:Int) > 0)=true:=decide_eq_true (by omega)
        have q2:decide ((0:Int)<(a:Int))=true:=decide_eq_true (by omega)
        have q3:decide (0<a)=true:=decide_eq_true ha0
        have hm:wrap64 ((a:Int) - 1)=(am:Int):=wr4 (a:=1) (by omega) (by omega)
        have hm2:IntKind.i64.wrap ((a:Int) - 1)=(am:Int):=wr6 (a:=1) (by clear hm;omega) (by clear hm;omega)
        obtain ⟨x,hx⟩ : ∃ x,x=d1[am]!:=⟨_,rfl⟩
        obtain ⟨y,hy⟩ : ∃ y,y=d1[p]!:=⟨_,rfl⟩
        rw [← hx] at c1
        rw [← hy] at c2
        have HXY:=Lib.hid (And.intro hx (And.intro hy ham))
        have HA0:=Lib.hid ha0
        rw [← ham,← hx,← hy] at HR
        clear hx hy ham han
        cases hl:ltInt x y with
        | true =>
         have HRR:=HR
         rw [hl,if_neg (show ¬ ((decide (a > 0) && !true)=true) by simp)] at HRR
         have HL:=fun w=>Lib.hid (less_u hl w)
         clear hl
         go_wp2_with fail
         go_quiet ((go_at_call 267;exact quiet_u (HL _).out))
         have hs3:=HS2.out.drewN nq
         generalize wq.drewN nq=W at hs3 ⊢
         have HS3:=Lib.hid hs3
         clear hs3 c1 c2 HL q1 q2 q3 hm hm2
         have HPT:=Lib.hid (partition_u HS3.out HPV.out.1 HPV.out.2 HAB.out.2.1 HAB.out.2.2.1)
         obtain ⟨⟨mid,ap,d4⟩,hx⟩ : ∃ q,q=partition ltInt d1 a b p:=⟨_,rfl⟩
         have HRP:=Lib.hid (round_part swo_ltInt (partition_holds ltInt) HPV.out.1 HPV.out.2 (show b≤d1.size by rw [HS3.out.size];exact HAB.out.2.1) HB1.out hx.symm)
         rw [← hx] at HPT HRR
         simp only at HPT HRR
         clear hx
         rw [if_pos (And.intro HRP.out.1 HRP.out.2.1)] at HRR
         go_wp2_with fail
         refine HPT.out.mono ?_
         rintro e w4 ⟨rfl,hs4⟩
         have HS4:=Lib.hid hs4
         have HW4:=Lib.hid (show w0.heap.size≤w4.heap.size from hs4.tn.size)
         clear hs4 HPT
         obtain ⟨x1,hx1⟩ : ∃ q,q=mid - a:=⟨_,rfl⟩
         obtain ⟨x2,hx2⟩ : ∃ q,q=b - mid:=⟨_,rfl⟩
         obtain ⟨thr,hth⟩ : ∃ q,q=L / 8:=⟨_,rfl⟩
         have HX12:=Lib.hid (And.intro hx1 (And.intro hx2 hth))
         have hmn:a≤mid∧mid<b∧b<50:=⟨HRP.out.1,HRP.out.2.1,Nat.lt_of_le_of_lt HAB.out.2.1 HAB.out.2.2.2.1⟩
         have HM:=Lib.hid (show mid - a<m∧b - (mid + 1)<m∧mid - a≤l1 + 12∧b - (mid + 1)≤l1 + 12∧a≤mid∧mid≤n∧mid + 1≤b∧b≤n∧b - (mid + 1)<b - a∧mid - a<b - a∧mid≤d4.size∧b≤d4.size by
          have:=HAB.out
          have:=HLM.out
          have:=HS4.out.size
          omega)
         have mid9:mid<1000000:=by omega
         have b9:b<1000000:=by omega
         have thr9:thr<1000000:=by clear e1;have:=HLL.out;omega
         have s3:=wr8d hth
         have S1:=Lib.hid (And.intro (show (mid:Int) - (a:Int)=(x1:Int) by clear e1 s3;omega) (And.intro (show (b:Int) - (mid:Int)=(x2:Int) by clear e1 s3;omega) s3))
         clear s3 e1
         by_cases hlr:x1<x2
         ·have r1:decide ((mid:Int) - (a:Int)<(b:Int) - (mid:Int))=true:=by rw [S1.out.1,S1.out.2.1];exact decide_eq_true (by omega)
          obtain ⟨tb,htb⟩ : ∃ q,q=decide (thr≤x1):=⟨_,rfl⟩
          have t1:decide (((mid:Int) - (a:Int))≥(thr:Int))=tb:=by rw [S1.out.1,htb];exact decide_eq_decide.2 Int.ofNat_le
          have t2:decide ((thr:Int)≤((mid:Int) - (a:Int)))=tb:=by rw [S1.out.1,htb];exact decide_eq_decide.2 Int.ofNat_le
          rw [if_pos (show mid - a<b - mid by rw [← HX12.out.1,← HX12.out.2.1];exact hlr),show decide (mid - a≥(b - a) / 8)=tb by rw [htb,HX12.out.1,HX12.out.2.2,HLM.out.2.2.1]] at HRR
          have HC:=Lib.hid (HIH.out _ _ _ _ _ HS4.out HW4.out HM.out.1 HM.out.2.2.2.2.1 HM.out.2.2.2.2.2.1 HM.out.2.2.1 HL19.out HRP.out.2.2.2.1)
          have HQ:=Lib.hid (pdq_sorts ltInt swo_ltInt d4 a mid l1 true true HM.out.2.2.2.2.1 HM.out.2.2.2.2.2.2.2.2.2.2.1 HRP.out.2.2.2.1)
          have s3:=S1.out.2.2
          clear hx1 hx2 hth hlr hmn htb
          go_wp2_with fail
          refine HC.out.mono ?_
          rintro e w5 ⟨rfl,hs5⟩
          have HS5:=Lib.hid hs5
          clear hs5 HC
          go_wp2_with fail
          go_roundw
          case rel=>exact ⟨mid + 1,b,l1,tb,ap,_,by go_num,rfl,rfl,rfl,rfl,HM.out.2.2.2.2.2.2.1,HM.out.2.2.2.2.2.2.2.1,Nat.le_of_lt HM.out.2.1,HM.out.2.2.2.1,HL19.out,HS5.out,(HRP.out.2.2.2.2.2.1 _ HQ.out.1 HQ.out.2).1,HRR.out⟩
          case measure=>simp [intOf];exact HM.out.2.2.2.2.2.2.2.2.1
         ·have r1:decide ((mid:Int) - (a:Int)<(b:Int) - (mid:Int))=false:=by rw [S1.out.1,S1.out.2.1];exact decide_eq_false (by omega)
          obtain ⟨tb,htb⟩ : ∃ q,q=decide (thr≤x2):=⟨_,rfl⟩
          have t1:decide (((b:Int) - (mid:Int))≥(thr:Int))=tb:=by rw [S1.out.2.1,htb];exact decide_eq_decide.2 Int.ofNat_le
          have t2:decide ((thr:Int)≤((b:Int) - (mid:Int)))=tb:=by rw [S1.out.2.1,htb];exact decide_eq_decide.2 Int.ofNat_le
          rw [if_neg (show ¬ mid - a<b - mid by rw [← HX12.out.1,← HX12.out.2.1];exact hlr),show decide (b - mid≥(b - a) / 8)=tb by rw [htb,HX12.out.2.1,HX12.out.2.2,HLM.out.2.2.1]] at HRR
          have HC:=Lib.hid (HIH.out _ _ _ _ _ HS4.out HW4.out HM.out.2.1 HM.out.2.2.2.2.2.2.1 HM.out.2.2.2.2.2.2.2.1 HM.out.2.2.2.1 HL19.out HRP.out.2.2.2.2.1)
          have HQ:=Lib.hid (pdq_sorts ltInt swo_ltInt d4 (mid + 1) b l1 true true HM.out.2.2.2.2.2.2.1 HM.out.2.2.2.2.2.2.2.2.2.2.2 HRP.out.2.2.2.2.1)
          have s3:=S1.out.2.2
          clear hx1 hx2 hth hlr hmn htb
          go_wp2_with fail
          refine HC.out.mono ?_
          rintro e w5 ⟨rfl,hs5⟩
          have HS5:=Lib.hid hs5
          clear hs5 HC
          go_wp2_with fail
          go_roundw
          case rel=>exact ⟨a,mid,l1,tb,ap,_,rfl,rfl,rfl,rfl,rfl,HM.out.2.2.2.2.1,HM.out.2.2.2.2.2.1,Nat.le_of_lt HM.out.1,HM.out.2.2.1,HL19.out,HS5.out,(HRP.out.2.2.2.2.2.2 _ HQ.out.1 HQ.out.2).1,HRR.out⟩
          case measure=>simp [intOf];exact HM.out.2.2.2.2.2.2.2.2.2.1
        | false =>
         have HRR:=HR
         rw [hl,if_pos (show (decide (a > 0) && !false)=true by simp [HA0.out])] at HRR
         have HNL:=Lib.hid (show ltInt d1[a - 1]! d1[p]! = false by rw [← HXY.out.2.2,← HXY.out.1,← HXY.out.2.1,hl])
         have HL:=fun w=>Lib.hid (less_u hl w)
         clear hl
         go_wp2_with fail
         go_quiet ((go_at_call 267;exact quiet_u (HL _).out))
         have hs3:=HS2.out.drewN nq
         generalize wq.drewN nq=W at hs3 ⊢
         have HS3:=Lib.hid hs3
         clear hs3 c1 c2 HL q1 q2 q3 hm hm2
         have HPT:=Lib.hid (partEqual_u HS3.out HPV.out.1 HPV.out.2 HAB.out.2.1 HAB.out.2.2.1)
         obtain ⟨⟨mid,d4⟩,hx⟩ : ∃ q,q=partitionEqual ltInt d1 a b p:=⟨_,rfl⟩
         have HRP:=Lib.hid (round_eq swo_ltInt (partitionEqual_holds ltInt) HA0.out HPV.out.1 HPV.out.2 (show b≤d1.size by rw [HS3.out.size];exact HAB.out.2.1) HB1.out HNL.out hx.symm)
         rw [← hx] at HPT HRR
         simp only at HPT HRR
         clear hx
         rw [if_pos (And.intro HRP.out.1 HRP.out.2.1)] at HRR
         have HM:=Lib.hid (show b - mid≤m∧b - mid≤l1 + 12∧b - mid<b - a by
          have:=HRP.out.1
          have:=HRP.out.2.1
          have:=HAB.out
          have:=HLM.out
          clear e1
          omega)
         go_wp2_with fail
         refine HPT.out.mono ?_
         rintro e w4 ⟨rfl,hs4⟩
         have HS4:=Lib.hid hs4
         clear hs4 HPT
         go_wp2_with fail
         go_roundw
         case rel=>exact ⟨mid,b,l1,true,true,d4,rfl,rfl,rfl,rfl,rfl,HRP.out.2.1,HAB.out.2.1,HM.out.1,HM.out.2.1,HL19.out,HS4.out,HRP.out.2.2.2.1,HRR.out⟩
         case measure=>simp [intOf];exact HM.out.2.2
       ·have q1:decide ((a:Int) > 0)=false:=decide_eq_false (by omega)
        have q2:decide ((0:Int)<(a:Int))=false:=decide_eq_false (by omega)
        have q3:decide (0<a)=false:=decide_eq_false ha0
        have HRR:=HR
        rw [if_neg (show ¬ ((decide (a > 0) && !ltInt d1[a - 1]! d1[p]!)=true) by simp;intro h;exact absurd h ha0)] at HRR
        clear ha0
        go_wp2_with fail
        go_quiet (fail)
        have hs3:=HS2.out.drewN nq
        generalize wq.drewN nq=W at hs3 ⊢
        have HS3:=Lib.hid hs3
        clear hs3 q1 q2 q3
        have HPT:=Lib.hid (partition_u HS3.out HPV.out.1 HPV.out.2 HAB.out.2.1 HAB.out.2.2.1)
        obtain ⟨⟨mid,ap,d4⟩,hx⟩ : ∃ q,q=partition ltInt d1 a b p:=⟨_,rfl⟩
        have HRP:=Lib.hid (round_part swo_ltInt (partition_holds ltInt) HPV.out.1 HPV.out.2 (show b≤d1.size by rw [HS3.out.size];exact HAB.out.2.1) HB1.out hx.symm)
        rw [← hx] at HPT HRR
        simp only at HPT HRR
        clear hx
        rw [if_pos (And.intro HRP.out.1 HRP.out.2.1)] at HRR
        go_wp2_with fail
        refine HPT.out.mono ?_
        rintro e w4 ⟨rfl,hs4⟩
        have HS4:=Lib.hid hs4
        have HW4:=Lib.hid (show w0.heap.size≤w4.heap.size from hs4.tn.size)
        clear hs4 HPT
        obtain ⟨x1,hx1⟩ : ∃ q,q=mid - a:=⟨_,rfl⟩
        obtain ⟨x2,hx2⟩ : ∃ q,q=b - mid:=⟨_,rfl⟩
        obtain ⟨thr,hth⟩ : ∃ q,q=L / 8:=⟨_,rfl⟩
        have HX12:=Lib.hid (And.intro hx1 (And.intro hx2 hth))
        have hmn:a≤mid∧mid<b∧b<50:=⟨HRP.out.1,HRP.out.2.1,Nat.lt_of_le_of_lt HAB.out.2.1 HAB.out.2.2.2.1⟩
        have HM:=Lib.hid (show mid - a<m∧b - (mid + 1)<m∧mid - a≤l1 + 12∧b - (mid + 1)≤l1 + 12∧a≤mid∧mid≤n∧mid + 1≤b∧b≤n∧b - (mid + 1)<b - a∧mid - a<b - a∧mid≤d4.size∧b≤d4.size by
         have:=HAB.out
         have:=HLM.out
         have:=HS4.out.size
         omega)
        have mid9:mid<1000000:=by omega
        have b9:b<1000000:=by omega
        have thr9:thr<1000000:=by clear e1;have:=HLL.out;omega
        have s3:=wr8d hth
        have S1:=Lib.hid (And.intro (show (mid:Int) - (a:Int)=(x1:Int) by clear e1 s3;omega) (And.intro (show (b:Int) - (mid:Int)=(x2:Int) by clear e1 s3;omega) s3))
        clear s3 e1
        by_cases hlr:x1<x2
        ·have r1:decide ((mid:Int) - (a:Int)<(b:Int) - (mid:Int))=true:=by rw [S1.out.1,S1.out.2.1];exact decide_eq_true (by omega)
         obtain ⟨tb,htb⟩ : ∃ q,q=decide (thr≤x1):=⟨_,rfl⟩
         have t1:decide (((mid:Int) - (a:Int))≥(thr:Int))=tb:=by rw [S1.out.1,htb];exact decide_eq_decide.2 Int.ofNat_le
         have t2:decide ((thr:Int)≤((mid:Int) - (a:Int)))=tb:=by rw [S1.out.1,htb];exact decide_eq_decide.2 Int.ofNat_le
         rw [if_pos (show mid - a<b - mid by rw [← HX12.out.1,← HX12.out.2.1];exact hlr),show decide (mid - a≥(b - a) / 8)=tb by rw [htb,HX12.out.1,HX12.out.2.2,HLM.out.2.2.1]] at HRR
         have HC:=Lib.hid (HIH.out _ _ _ _ _ HS4.out HW4.out HM.out.1 HM.out.2.2.2.2.1 HM.out.2.2.2.2.2.1 HM.out.2.2.1 HL19.out HRP.out.2.2.2.1)
         have HQ:=Lib.hid (pdq_sorts ltInt swo_ltInt d4 a mid l1 true true HM.out.2.2.2.2.1 HM.out.2.2.2.2.2.2.2.2.2.2.1 HRP.out.2.2.2.1)
         have s3:=S1.out.2.2
         clear hx1 hx2 hth hlr hmn htb
         go_wp2_with fail
         refine HC.out.mono ?_
         rintro e w5 ⟨rfl,hs5⟩
         have HS5:=Lib.hid hs5
         clear hs5 HC
         go_wp2_with fail
         go_roundw
         case rel=>exact ⟨mid + 1,b,l1,tb,ap,_,by go_num,rfl,rfl,rfl,rfl,HM.out.2.2.2.2.2.2.1,HM.out.2.2.2.2.2.2.2.1,Nat.le_of_lt HM.out.2.1,HM.out.2.2.2.1,HL19.out,HS5.out,(HRP.out.2.2.2.2.2.1 _ HQ.out.1 HQ.out.2).1,HRR.out⟩
         case measure=>simp [intOf];exact HM.out.2.2.2.2.2.2.2.2.1
        ·have r1:decide ((mid:Int) - (a:Int)<(b:Int) - (mid:Int))=false:=by rw [S1.out.1,S1.out.2.1];exact decide_eq_false (by omega)
         obtain ⟨tb,htb⟩ : ∃ q,q=decide (thr≤x2):=⟨_,rfl⟩
         have t1:decide (((b:Int) - (mid:Int))≥(thr:Int))=tb:=by rw [S1.out.2.1,htb];exact decide_eq_decide.2 Int.ofNat_le
         have t2:decide ((thr:Int)≤((b:Int) - (mid:Int)))=tb:=by rw [S1.out.2.1,htb];exact decide_eq_decide.2 Int.ofNat_le
         rw [if_neg (show ¬ mid - a<b - mid by rw [← HX12.out.1,← HX12.out.2.1];exact hlr),show decide (b - mid≥(b - a) / 8)=tb by rw [htb,HX12.out.2.1,HX12.out.2.2,HLM.out.2.2.1]] at HRR
         have HC:=Lib.hid (HIH.out _ _ _ _ _ HS4.out HW4.out HM.out.2.1 HM.out.2.2.2.2.2.2.1 HM.out.2.2.2.2.2.2.2.1 HM.out.2.2.2.1 HL19.out HRP.out.2.2.2.2.1)
         have HQ:=Lib.hid (pdq_sorts ltInt swo_ltInt d4 (mid + 1) b l1 true true HM.out.2.2.2.2.2.2.1 HM.out.2.2.2.2.2.2.2.2.2.2.2 HRP.out.2.2.2.2.1)
         have s3:=S1.out.2.2
         clear hx1 hx2 hth hlr hmn htb
         go_wp2_with fail
         refine HC.out.mono ?_
         rintro e w5 ⟨rfl,hs5⟩
         have HS5:=Lib.hid hs5
         clear hs5 HC
         go_wp2_with fail
         go_roundw
         case rel=>exact ⟨a,mid,l1,tb,ap,_,rfl,rfl,rfl,rfl,rfl,HM.out.2.2.2.2.1,HM.out.2.2.2.2.2.1,Nat.le_of_lt HM.out.1,HM.out.2.2.1,HL19.out,HS5.out,(HRP.out.2.2.2.2.2.2 _ HQ.out.1 HQ.out.2).1,HRR.out⟩
         case measure=>simp [intOf];exact HM.out.2.2.2.2.2.2.2.2.2.1
      | increasing =>
       as_aux_lemma =>
       have zk1:(kh == 1)=true:=by rw [HKH.out];rfl
       go_wp2_with fail
       refine HPI.out.mono ?_
       rintro e w2 ⟨rfl,hnd,hs2⟩
       have HND:=Lib.hid hnd
       have HS2:=Lib.hid hs2
       have zk:(kh == 2)=false:=by rw [HKH.out];rfl
       clear hs2 hnd HPI
       obtain ⟨wq,hwq⟩ : ∃ z,z=w2:=⟨_,rfl⟩
       subst hwq
       have HPA:=Lib.hid (partial_u HS2.out (show a<b by have:=HLM.out;omega) HAB.out.2.1 HAB.out.2.2.1 (show b - a<50 by have:=HAB.out;omega))
       obtain ⟨⟨D,r⟩,hD⟩ : ∃ q,q=partialInsertionSort ltInt d1 a b:=⟨_,rfl⟩
       have hD1:D=d1:=by rw [partial_is (show b - a<50 by have:=HAB.out;omega)] at hD;exact congrArg Prod.fst hD
       subst hD1
       rw [← hD] at HPA
       simp only at HPA
       have HR:=Lib.hid ((pdq_long (d:=D) (d1:=D) (a:=a) (b:=b) (lim:=l1) (lim1:=l1) (p:=p) (wb:=true) (wp:=true) (r:=r) (h:=.increasing) HL12.out HL0.out rfl rfl HCP.out HND.out hD.symm).symm.trans HE.out)
       clear hD
       cases r with
       | true =>
        rw [if_pos rfl] at HR
        go_wp2_with fail
        refine HPA.out.mono ?_
        rintro e w3 ⟨rfl,_,hs3⟩
        have HS3:=Lib.hid hs3
        clear hs3 HPA
        go_wp2_with fail
        refine ⟨rfl,_,results_none (by kernel_rfl) _ _ _,rfl,?_⟩
        rw [← HR.out]
        exact HS3.out
       | false =>
        rw [if_neg Bool.false_ne_true] at HR
        go_wp2_with fail
        refine HPA.out.mono ?_
        rintro e w3 ⟨rfl,_,hs3⟩
        obtain ⟨d1,hd1⟩ : ∃ q,q=D:=⟨_,rfl⟩
        subst hd1
        clear HS2
        have HS2:=Lib.hid hs3
        clear hs3 HPA
        obtain ⟨wq,hwq⟩ : ∃ z,z=w3:=⟨_,rfl⟩
        subst hwq
        by_cases ha0:0<a
        ·obtain ⟨am,ham⟩ : ∃ q,q=a - 1:=⟨_,rfl⟩
         have han:am<n∧p<n:=by have:=HAB.out;have:=HPV.out;omega
         have c1:=HS2.out.cell han.1
         have c2:=HS2.out.cell han.2
         have l3:(am:Int)<(n:Int):=Int.ofNat_lt.2 han.1
         have l4:(p:Int)<(n:Int):=Int.ofNat_lt.2 han.2
         have q1:decide ((a:Int) > 0)=true:=decide_eq_true (by omega)
         have q2:decide ((0:Int)<(a:Int))=true:=decide_eq_true (by omega)
         have q3:decide (0<a)=true:=decide_eq_true ha0
         have hm:wrap64 ((a:Int) - 1)=(am:Int):=wr4 (a:=1) (by omega) (by omega)
         have hm2:IntKind.i64.wrap ((a:Int) - 1)=(am:Int):=wr6 (a:=1) (by clear hm;omega) (by clear hm;omega)
         obtain ⟨x,hx⟩ : ∃ x,x=d1[am]!:=⟨_,rfl⟩
         obtain ⟨y,hy⟩ : ∃ y,y=d1[p]!:=⟨_,rfl⟩
         rw [← hx] at c1
         rw [← hy] at c2
         have HXY:=Lib.hid (And.intro hx (And.intro hy ham))
         have HA0:=Lib.hid ha0
         rw [← ham,← hx,← hy] at HR
         clear hx hy ham han
         cases hl:ltInt x y with
         | true =>
          have HRR:=HR
          rw [hl,if_neg (show ¬ ((decide (a > 0) && !true)=true) by simp)] at HRR
          have HL:=fun w=>Lib.hid (less_u hl w)
          clear hl
          go_wp2_with fail
          go_quiet ((go_at_call 267;exact quiet_u (HL _).out))
          have hs3:=HS2.out.drewN nq
          generalize wq.drewN nq=W at hs3 ⊢
          have HS3:=Lib.hid hs3
          clear hs3 c1 c2 HL q1 q2 q3 hm hm2
          have HPT:=Lib.hid (partition_u HS3.out HPV.out.1 HPV.out.2 HAB.out.2.1 HAB.out.2.2.1)
          obtain ⟨⟨mid,ap,d4⟩,hx⟩ : ∃ q,q=partition ltInt d1 a b p:=⟨_,rfl⟩
          have HRP:=Lib.hid (round_part swo_ltInt (partition_holds ltInt) HPV.out.1 HPV.out.2 (show b≤d1.size by rw [HS3.out.size];exact HAB.out.2.1) HB1.out hx.symm)
          rw [← hx] at HPT HRR
          simp only at HPT HRR
          clear hx
          rw [if_pos (And.intro HRP.out.1 HRP.out.2.1)] at HRR
          go_wp2_with fail
          refine HPT.out.mono ?_
          rintro e w4 ⟨rfl,hs4⟩
          have HS4:=Lib.hid hs4
          have HW4:=Lib.hid (show w0.heap.size≤w4.heap.size from hs4.tn.size)
          clear hs4 HPT
          obtain ⟨x1,hx1⟩ : ∃ q,q=mid - a:=⟨_,rfl⟩
          obtain ⟨x2,hx2⟩ : ∃ q,q=b - mid:=⟨_,rfl⟩
          obtain ⟨thr,hth⟩ : ∃ q,q=L / 8:=⟨_,rfl⟩
          have HX12:=Lib.hid (And.intro hx1 (And.intro hx2 hth))
          have hmn:a≤mid∧mid<b∧b<50:=⟨HRP.out.1,HRP.out.2.1,Nat.lt_of_le_of_lt HAB.out.2.1 HAB.out.2.2.2.1⟩
          have HM:=Lib.hid (show mid - a<m∧b - (mid + 1)<m∧mid - a≤l1 + 12∧b - (mid + 1)≤l1 + 12∧a≤mid∧mid≤n∧mid + 1≤b∧b≤n∧b - (mid + 1)<b - a∧mid - a<b - a∧mid≤d4.size∧b≤d4.size by
           have:=HAB.out
           have:=HLM.out
           have:=HS4.out.size
           omega)
          have mid9:mid<1000000:=by omega
          have b9:b<1000000:=by omega
          have thr9:thr<1000000:=by clear e1;have:=HLL.out;omega
          have s3:=wr8d hth
          have S1:=Lib.hid (And.intro (show (mid:Int) - (a:Int)=(x1:Int) by clear e1 s3;omega) (And.intro (show (b:Int) - (mid:Int)=(x2:Int) by clear e1 s3;omega) s3))
          clear s3 e1
          by_cases hlr:x1<x2
          ·have r1:decide ((mid:Int) - (a:Int)<(b:Int) - (mid:Int))=true:=by rw [S1.out.1,S1.out.2.1];exact decide_eq_true (by omega)
           obtain ⟨tb,htb⟩ : ∃ q,q=decide (thr≤x1):=⟨_,rfl⟩
           have t1:decide (((mid:Int) - (a:Int))≥(thr:Int))=tb:=by rw [S1.out.1,htb];exact decide_eq_decide.2 Int.ofNat_le
           have t2:decide ((thr:Int)≤((mid:Int) - (a:Int)))=tb:=by rw [S1.out.1,htb];exact decide_eq_decide.2 Int.ofNat_le
           rw [if_pos (show mid - a<b - mid by rw [← HX12.out.1,← HX12.out.2.1];exact hlr),show decide (mid - a≥(b - a) / 8)=tb by rw [htb,HX12.out.1,HX12.out.2.2,HLM.out.2.2.1]] at HRR
           have HC:=Lib.hid (HIH.out _ _ _ _ _ HS4.out HW4.out HM.out.1 HM.out.2.2.2.2.1 HM.out.2.2.2.2.2.1 HM.out.2.2.1 HL19.out HRP.out.2.2.2.1)
           have HQ:=Lib.hid (pdq_sorts ltInt swo_ltInt d4 a mid l1 true true HM.out.2.2.2.2.1 HM.out.2.2.2.2.2.2.2.2.2.2.1 HRP.out.2.2.2.1)
           have s3:=S1.out.2.2
           clear hx1 hx2 hth hlr hmn htb
           go_wp2_with fail
           refine HC.out.mono ?_
           rintro e w5 ⟨rfl,hs5⟩
           have HS5:=Lib.hid hs5
           clear hs5 HC
           go_wp2_with fail
           go_roundw
           case rel=>exact ⟨mid + 1,b,l1,tb,ap,_,by go_num,rfl,rfl,rfl,rfl,HM.out.2.2.2.2.2.2.1,HM.out.2.2.2.2.2.2.2.1,Nat.le_of_lt HM.out.2.1,HM.out.2.2.2.1,HL19.out,HS5.out,(HRP.out.2.2.2.2.2.1 _ HQ.out.1 HQ.out.2).1,HRR.out⟩
           case measure=>simp [intOf];exact HM.out.2.2.2.2.2.2.2.2.1
          ·have r1:decide ((mid:Int) - (a:Int)<(b:Int) - (mid:Int))=false:=by rw [S1.out.1,S1.out.2.1];exact decide_eq_false (by omega)
           obtain ⟨tb,htb⟩ : ∃ q,q=decide (thr≤x2):=⟨_,rfl⟩
           have t1:decide (((b:Int) - (mid:Int))≥(thr:Int))=tb:=by rw [S1.out.2.1,htb];exact decide_eq_decide.2 Int.ofNat_le
           have t2:decide ((thr:Int)≤((b:Int) - (mid:Int)))=tb:=by rw [S1.out.2.1,htb];exact decide_eq_decide.2 Int.ofNat_le
           rw [if_neg (show ¬ mid - a<b - mid by rw [← HX12.out.1,← HX12.out.2.1];exact hlr),show decide (b - mid≥(b - a) / 8)=tb by rw [htb,HX12.out.2.1,HX12.out.2.2,HLM.out.2.2.1]] at HRR
           have HC:=Lib.hid (HIH.out _ _ _ _ _ HS4.out HW4.out HM.out.2.1 HM.out.2.2.2.2.2.2.1 HM.out.2.2.2.2.2.2.2.1 HM.out.2.2.2.1 HL19.out HRP.out.2.2.2.2.1)
           have HQ:=Lib.hid (pdq_sorts ltInt swo_ltInt d4 (mid + 1) b l1 true true HM.out.2.2.2.2.2.2.1 HM.out.2.2.2.2.2.2.2.2.2.2.2 HRP.out.2.2.2.2.1)
           have s3:=S1.out.2.2
           clear hx1 hx2 hth hlr hmn htb
           go_wp2_with fail
           refine HC.out.mono ?_
           rintro e w5 ⟨rfl,hs5⟩
           have HS5:=Lib.hid hs5
           clear hs5 HC
           go_wp2_with fail
           go_roundw
           case rel=>exact ⟨a,mid,l1,tb,ap,_,rfl,rfl,rfl,rfl,rfl,HM.out.2.2.2.2.1,HM.out.2.2.2.2.2.1,Nat.le_of_lt HM.out.1,HM.out.2.2.1,HL19.out,HS5.out,(HRP.out.2.2.2.2.2.2 _ HQ.out.1 HQ.out.2).1,HRR.out⟩
           case measure=>simp [intOf];exact HM.out.2.2.2.2.2.2.2.2.2.1
         | false =>
          have HRR:=HR
          rw [hl,if_pos (show (decide (a > 0) && !false)=true by simp [HA0.out])] at HRR
          have HNL:=Lib.hid (show ltInt d1[a - 1]! d1[p]! = false by rw [← HXY.out.2.2,← HXY.out.1,← HXY.out.2.1,hl])
          have HL:=fun w=>Lib.hid (less_u hl w)
          clear hl
          go_wp2_with fail
          go_quiet ((go_at_call 267;exact quiet_u (HL _).out))
          have hs3:=HS2.out.drewN nq
          generalize wq.drewN nq=W at hs3 ⊢
          have HS3:=Lib.hid hs3
          clear hs3 c1 c2 HL q1 q2 q3 hm hm2
          have HPT:=Lib.hid (partEqual_u HS3.out HPV.out.1 HPV.out.2 HAB.out.2.1 HAB.out.2.2.1)
          obtain ⟨⟨mid,d4⟩,hx⟩ : ∃ q,q=partitionEqual ltInt d1 a b p:=⟨_,rfl⟩
          have HRP:=Lib.hid (round_eq swo_ltInt (partitionEqual_holds ltInt) HA0.out HPV.out.1 HPV.out.2 (show b≤d1.size by rw [HS3.out.size];exact HAB.out.2.1) HB1.out HNL.out hx.symm)
          rw [← hx] at HPT HRR
          simp only at HPT HRR
          clear hx
          rw [if_pos (And.intro HRP.out.1 HRP.out.2.1)] at HRR
          have HM:=Lib.hid (show b - mid≤m∧b - mid≤l1 + 12∧b - mid<b - a by
           have:=HRP.out.1
           have:=HRP.out.2.1
           have:=HAB.out
           have:=HLM.out
           clear e1
           omega)
          go_wp2_with fail
          refine HPT.out.mono ?_
          rintro e w4 ⟨rfl,hs4⟩
          have HS4:=Lib.hid hs4
          clear hs4 HPT
          go_wp2_with fail
          go_roundw
          case rel=>exact ⟨mid,b,l1,true,true,d4,rfl,rfl,rfl,rfl,rfl,HRP.out.2.1,HAB.out.2.1,HM.out.1,HM.out.2.1,HL19.out,HS4.out,HRP.out.2.2.2.1,HRR.out⟩
          case measure=>simp [intOf];exact HM.out.2.2
        ·have q1:decide ((a:Int) > 0)=false:=decide_eq_false (by omega)
         have q2:decide ((0:Int)<(a:Int))=false:=decide_eq_false (by omega)
         have q3:decide (0<a)=false:=decide_eq_false ha0
         have HRR:=HR
         rw [if_neg (show ¬ ((decide (a > 0) && !ltInt d1[a - 1]! d1[p]!)=true) by simp;intro h;exact absurd h ha0)] at HRR
         clear ha0
         go_wp2_with fail
         go_quiet (fail)
         have hs3:=HS2.out.drewN nq
         generalize wq.drewN nq=W at hs3 ⊢
         have HS3:=Lib.hid hs3
         clear hs3 q1 q2 q3
         have HPT:=Lib.hid (partition_u HS3.out HPV.out.1 HPV.out.2 HAB.out.2.1 HAB.out.2.2.1)
         obtain ⟨⟨mid,ap,d4⟩,hx⟩ : ∃ q,q=partition ltInt d1 a b p:=⟨_,rfl⟩
         have HRP:=Lib.hid (round_part swo_ltInt (partition_holds ltInt) HPV.out.1 HPV.out.2 (show b≤d1.size by rw [HS3.out.size];exact HAB.out.2.1) HB1.out hx.symm)
         rw [← hx] at HPT HRR
         simp only at HPT HRR
         clear hx
         rw [if_pos (And.intro HRP.out.1 HRP.out.2.1)] at HRR
         go_wp2_with fail
         refine HPT.out.mono ?_
         rintro e w4 ⟨rfl,hs4⟩
         have HS4:=Lib.hid hs4
         have HW4:=Lib.hid (show w0.heap.size≤w4.heap.size from hs4.tn.size)
         clear hs4 HPT
         obtain ⟨x1,hx1⟩ : ∃ q,q=mid - a:=⟨_,rfl⟩
         obtain ⟨x2,hx2⟩ : ∃ q,q=b - mid:=⟨_,rfl⟩
         obtain ⟨thr,hth⟩ : ∃ q,q=L / 8:=⟨_,rfl⟩
         have HX12:=Lib.hid (And.intro hx1 (And.intro hx2 hth))
         have hmn:a≤mid∧mid<b∧b<50:=⟨HRP.out.1,HRP.out.2.1,Nat.lt_of_le_of_lt HAB.out.2.1 HAB.out.2.2.2.1⟩
         have HM:=Lib.hid (show mid - a<m∧b - (mid + 1)<m∧mid - a≤l1 + 12∧b - (mid + 1)≤l1 + 12∧a≤mid∧mid≤n∧mid + 1≤b∧b≤n∧b - (mid + 1)<b - a∧mid - a<b - a∧mid≤d4.size∧b≤d4.size by
          have:=HAB.out
          have:=HLM.out
          have:=HS4.out.size
          omega)
         have mid9:mid<1000000:=by omega
         have b9:b<1000000:=by omega
         have thr9:thr<1000000:=by clear e1;have:=HLL.out;omega
         have s3:=wr8d hth
         have S1:=Lib.hid (And.intro (show (mid:Int) - (a:Int)=(x1:Int) by clear e1 s3;omega) (And.intro (show (b:Int) - (mid:Int)=(x2:Int) by clear e1 s3;omega) s3))
         clear s3 e1
         by_cases hlr:x1<x2
         ·have r1:decide ((mid:Int) - (a:Int)<(b:Int) - (mid:Int))=true:=by rw [S1.out.1,S1.out.2.1];exact decide_eq_true (by omega)
          obtain ⟨tb,htb⟩ : ∃ q,q=decide (thr≤x1):=⟨_,rfl⟩
          have t1:decide (((mid:Int) - (a:Int))≥(thr:Int))=tb:=by rw [S1.out.1,htb];exact decide_eq_decide.2 Int.ofNat_le
          have t2:decide ((thr:Int)≤((mid:Int) - (a:Int)))=tb:=by rw [S1.out.1,htb];exact decide_eq_decide.2 Int.ofNat_le
          rw [if_pos (show mid - a<b - mid by rw [← HX12.out.1,← HX12.out.2.1];exact hlr),show decide (mid - a≥(b - a) / 8)=tb by rw [htb,HX12.out.1,HX12.out.2.2,HLM.out.2.2.1]] at HRR
          have HC:=Lib.hid (HIH.out _ _ _ _ _ HS4.out HW4.out HM.out.1 HM.out.2.2.2.2.1 HM.out.2.2.2.2.2.1 HM.out.2.2.1 HL19.out HRP.out.2.2.2.1)
          have HQ:=Lib.hid (pdq_sorts ltInt swo_ltInt d4 a mid l1 true true HM.out.2.2.2.2.1 HM.out.2.2.2.2.2.2.2.2.2.2.1 HRP.out.2.2.2.1)
          have s3:=S1.out.2.2
          clear hx1 hx2 hth hlr hmn htb
          go_wp2_with fail
          refine HC.out.mono ?_
          rintro e w5 ⟨rfl,hs5⟩
          have HS5:=Lib.hid hs5
          clear hs5 HC
          go_wp2_with fail
          go_roundw
          case rel=>exact ⟨mid + 1,b,l1,tb,ap,_,by go_num,rfl,rfl,rfl,rfl,HM.out.2.2.2.2.2.2.1,HM.out.2.2.2.2.2.2.2.1,Nat.le_of_lt HM.out.2.1,HM.out.2.2.2.1,HL19.out,HS5.out,(HRP.out.2.2.2.2.2.1 _ HQ.out.1 HQ.out.2).1,HRR.out⟩
          case measure=>simp [intOf];exact HM.out.2.2.2.2.2.2.2.2.1
         ·have r1:decide ((mid:Int) - (a:Int)<(b:Int) - (mid:Int))=false:=by rw [S1.out.1,S1.out.2.1];exact decide_eq_false (by omega)
          obtain ⟨tb,htb⟩ : ∃ q,q=decide (thr≤x2):=⟨_,rfl⟩
          have t1:decide (((b:Int) - (mid:Int))≥(thr:Int))=tb:=by rw [S1.out.2.1,htb];exact decide_eq_decide.2 Int.ofNat_le
          have t2:decide ((thr:Int)≤((b:Int) - (mid:Int)))=tb:=by rw [S1.out.2.1,htb];exact decide_eq_decide.2 Int.ofNat_le
          rw [if_neg (show ¬ mid - a<b - mid by rw [← HX12.out.1,← HX12.out.2.1];exact hlr),show decide (b - mid≥(b - a) / 8)=tb by rw [htb,HX12.out.2.1,HX12.out.2.2,HLM.out.2.2.1]] at HRR
          have HC:=Lib.hid (HIH.out _ _ _ _ _ HS4.out HW4.out HM.out.2.1 HM.out.2.2.2.2.2.2.1 HM.out.2.2.2.2.2.2.2.1 HM.out.2.2.2.1 HL19.out HRP.out.2.2.2.2.1)
          have HQ:=Lib.hid (pdq_sorts ltInt swo_ltInt d4 (mid + 1) b l1 true true HM.out.2.2.2.2.2.2.1 HM.out.2.2.2.2.2.2.2.2.2.2.2 HRP.out.2.2.2.2.1)
          have s3:=S1.out.2.2
          clear hx1 hx2 hth hlr hmn htb
          go_wp2_with fail
          refine HC.out.mono ?_
          rintro e w5 ⟨rfl,hs5⟩
          have HS5:=Lib.hid hs5
          clear hs5 HC
          go_wp2_with fail
          go_roundw
          case rel=>exact ⟨a,mid,l1,tb,ap,_,rfl,rfl,rfl,rfl,rfl,HM.out.2.2.2.2.1,HM.out.2.2.2.2.2.1,Nat.le_of_lt HM.out.1,HM.out.2.2.1,HL19.out,HS5.out,(HRP.out.2.2.2.2.2.2 _ HQ.out.1 HQ.out.2).1,HRR.out⟩
          case measure=>simp [intOf];exact HM.out.2.2.2.2.2.2.2.2.2.1
end Go.Proofs.YtlgdcelgkiipaaaGreat.Ls
