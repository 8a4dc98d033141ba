/-
  DocOne's walk: a document under any calls, beside one past: it returns true; nothing that was there turns. Conditions: what the law is given can be read as data.
-/
import Derived.Test.YtlgdcelgkiipaaaGreatOc49
set_option maxRecDepth 100000
set_option linter.unusedVariables false
namespace Go.Proofs.YtlgdcelgkiipaaaGreat
open Go.RowKit
open Pl (Un)
namespace docOne
theorem look_then {V w w2:World} {k:Nat→Nat} {mo n:Nat} {O:Nat→List Un} (h:OpsM V k mo n O) (hb:Below V.heap.size V w) (hb2:Below w.heap.size w w2) (K:Nat) (hK:K≤1099511627776) :
  ∃ A m c,(Instr.lookup 68 (.map (some mo)) (.int .u64 (K:Int)) false).run Tryz.prog w2=.ok (.slice A m c) w2∧Uns w2 w2.heap.size A m c (O K) :=
 (h.then_ (below_then hb hb2)).look (by omega)
def InR (V:World) (N:Nat) (i:Value) (wr:World):Prop:=∃ j:Nat,i=.int .i64 (j:Int)∧j≤N∧Below V.heap.size V wr
def OneR (w:World) (D mt mo:Nat) (L:List ActD) (nw i:Value) (wr:World):Prop :=
 ∃ (j now:Nat) (k:Nat→Nat) (d:Pl.Dc) (H:Nat→List Int) (O:Nat→List Un) (nt no:Nat),i=.int .i64 (j:Int)∧nw=.int .u64 (now:Int)∧(j≤L.length∧j≤50∧now≤255 * j)∧DocW w wr D k d (j * 256)∧d.t≤j∧Pl.Dc.Hist d H O ∧
  (UptoM wr k mt nt d.now∧nt≤j + 1)∧(OpsM wr k mo no O∧no≤j)∧mt≠mo∧w.heap.size≤mt∧w.heap.size≤mo
set_option maxHeartbeats 16000000 in
theorem walk (w:World) (A:Option Addr) (n c:Nat) (L:List ActD) (hA:Rws encD w w.heap.size A n c L∧∀ o ∈ L,Units w w.heap.size o.A o.n o.c o.l∧o.Fit) :
  Calls Tryz.prog 4 #[.slice A n c] w fun e w'=>e=.returned (.bool true)∧Below w.heap.size w w':=by
 obtain ⟨R,hR⟩ : ∃ R:Ending→World→Prop,R=fun e w'=>e=.returned (.bool true)∧Below w.heap.size w w':=⟨_,rfl⟩
 rw [← hR]
 have HR:=Lib.hid hR
 have HLN:=Lib.hid hA.1.len
 have HAC:=Lib.hid hA
 have hcap:=Nat.le_trans hA.1.le hA.1.cap
 unfold maxLen at hcap
 have hmm:=@run_makeMap Tryz.prog
 clear hA hR
 go_enter Tryz.func4,Tryz.ntmps4
 go_wp2_with fail
 refine (newD_any w).mono ?_
 rintro e W0 ⟨D,k0,rfl,hd0,hk0,hb0⟩
 obtain ⟨W2,hins,hm2,ht2⟩:=(MapV.made 27 W0).store keyed64 Tryz.underlying67 (by decide) (.slice none 0 0) (key:=.int .u64 0) (kl:=.int .u64 0) (key64 (r:=0) (by decide)) (lit64 0)
 have hbm:Below W0.heap.size W0 W2:=ht2.below (below_box W0 _) (by simp) fun b e=>by omega
 have hz2:=hbm.size
 have hb3:=below_box W2 (.map #[] 0)
 have hbw:Below w.heap.size w (W2.alloc (.map #[] 0)):=(hb0.trans (hbm.mono hb0.size)).trans (hb3.mono (Nat.le_trans hb0.size hbm.size))
 have HD0:=Lib.hid (show DocW w (W2.alloc (.map #[] 0)) D k0 Pl.Dc.zero 0 from ⟨⟨0,Nat.le_refl _,(hd0.then_ hbm).then_ hb3⟩,hk0,hbw⟩)
 have HM1:=Lib.hid (show UptoM (W2.alloc (.map #[] 0)) k0 W0.heap.size 1 0 from ⟨_,hm2.then_ hb3,box_zero k0 _ hd0.lt (Nat.le_refl _),fun r hr=>laidF_ne _ _ (fun e=>by injection e with _ e;omega)⟩)
 have HM2:=Lib.hid (show OpsM (W2.alloc (.map #[] 0)) k0 W2.heap.size 0 (fun _=>[]) from ⟨_,MapV.made 27 W2,box_zero k0 _ (fun b hb=>Nat.lt_of_lt_of_le (hd0.lt b hb) hz2) (Nat.le_refl _),fun r=>.inl ⟨rfl,rfl⟩⟩)
 have hne:W0.heap.size≠W2.heap.size:=by have:=hm2.lt;omega
 have HNE:=Lib.hid (And.intro hne (And.intro hb0.size (Nat.le_trans hb0.size hz2)))
 clear hd0 hk0 hb0 hm2 ht2 hbm hb3 hbw hz2 hne
 go_wp2_with fail
 obtain ⟨mt,hmt⟩ : ∃ mt,mt=W0.heap.size:=⟨_,rfl⟩
 obtain ⟨mo,hmo⟩ : ∃ mo,mo=W2.heap.size:=⟨_,rfl⟩
 rw [← hmt] at HM1 HNE ⊢
 rw [← hmo] at HM2 HNE ⊢
 generalize W2.alloc (.map #[] 0)=W3 at HD0 HM1 HM2 ⊢
 clear hmm hins hmt hmo W2 W0
 go_loopw [6,27] (fun nw i wr=>OneR w D mt mo L nw i wr) (fun _ i _=>n - (intOf i).toNat)
 case atStart=>exact ⟨0,0,k0,Pl.Dc.zero,fun _=>[],fun _=>[],1,0,rfl,rfl,⟨Nat.zero_le _,Nat.zero_le _,Nat.zero_le _⟩,HD0.out,Nat.le_refl _,Pl.Dc.Hist.zero _ _ rfl,⟨HM1.out,Nat.le_refl _⟩,⟨HM2.out,Nat.le_refl _⟩,HNE.out⟩
 case round =>
  obtain ⟨j,now,k,d,H,O,nt,no,rfl,rfl,⟨hj,hj50,hnw⟩,hd,hdt,hh,hmt,hmo,hne⟩:=hrel
  have HD:=Lib.hid hd
  have HT:=Lib.hid (And.intro hmt hmo)
  have HH:=Lib.hid (And.intro hh hdt)
  have HJ:=Lib.hid (And.intro hj (And.intro hj50 hnw))
  have HN:=Lib.hid hne
  rw [HLN.out] at hj
  clear hd hdt hh hmt hmo hne
  by_cases hlt:j<n
  ·have hjL:j<L.length:=by rw [HLN.out];exact hlt
   have z0:(0:Int)≤(j:Int):=Int.natCast_nonneg _
   have z1:(j:Int)<(n:Int):=Int.ofNat_lt.2 hlt
   have HMS:=Lib.hid (show n - (j + 1)<n - j by omega)
   obtain ⟨g,o,rfl,_,hc⟩:=Rws.at_ encD_len (HAC.out.1.below HD.out.below (Nat.le_refl _)) hlt
   obtain ⟨a,ha⟩ : ∃ a,a=L.getD j default:=⟨_,rfl⟩
   have hmem:a ∈ L:=by rw [ha,List.getD_eq_getElem?_getD,List.getElem?_eq_getElem hjL];exact List.getElem_mem _
   have HFU:=Lib.hid (HAC.out.2 a hmem)
   have a0:=hc j hlt 0 _ (by decide) rfl
   have a1:=hc j hlt 1 _ (by decide) rfl
   have a2:=hc j hlt 2 _ (by decide) rfl
   have a3:=hc j hlt 3 _ (by decide) rfl
   have a4:=hc j hlt 4 _ (by decide) rfl
   have a5:=hc j hlt 5 _ (by decide) rfl
   have a6:=hc j hlt 6 _ (by decide) rfl
   have a7:=hc j hlt 7 _ (by decide) rfl
   rw [← ha] at a0 a1 a2 a3 a4 a5 a6 a7
   clear hc ha hmem
   obtain ⟨q,x,y,r,p,Ar,nr,cr,l,raw,t⟩:=a
   simp only [Nat.add_zero,← Nat.add_assoc] at a0 a1 a2 a3 a4 a5 a6 a7
   have ht255:=HFU.out.2.t
   simp only at ht255
   have w1:IntKind.u64.wrap (t:Int)=(t:Int):=by rw [IntKind.wrap_u64];omega
   have w2:IntKind.u64.wrap ((now:Int) + (t:Int))=((now + t:Nat):Int):=by rw [IntKind.wrap_u64];omega
   obtain ⟨now2,hnow2⟩ : ∃ now2,now2=now + t:=⟨_,rfl⟩
   rw [← hnow2] at w2
   have HNW:=Lib.hid (show now2≤255 * (j + 1)∧now≤255 * j by omega)
   by_cases h50:j=50
   ·have z2:((j:Int) == 50)=true:=by rw [h50];rfl
    clear h50
    have hbx:=below_box wr (.cells #[.int .i64 q,.int .u32 x,.int .u64 y,.int .u64 (r:Int),.int .i64 p,.slice Ar nr cr,.bool raw,.int .u8 (t:Int)] 31)
    have HBE:=Lib.hid (HD.out.below.trans (hbx.mono HD.out.below.size))
    clear hbx hnow2 w1 w2 hnw
    go_wp2_with fail
    refine (awake_any _).mono ?_
    rintro e w' ⟨rfl,hb⟩
    go_wp2_with fail
    rw [HR.out]
    exact ⟨rfl,HBE.out.trans (hb.mono HBE.out.size)⟩
   ·have z2:((j:Int) == 50)=false:=by simp;omega
    have HJ49:=Lib.hid (show j + 1≤50 by omega)
    clear h50 hj50 hnow2 hnw
    go_wp2_with fail
    have hbx:=below_box wr (.cells #[.int .i64 q,.int .u32 x,.int .u64 y,.int .u64 (r:Int),.int .i64 p,.slice Ar nr cr,.bool raw,.int .u8 (t:Int)] 31)
    have hbo:=heap_alloc_new wr (.cells #[.int .i64 q,.int .u32 x,.int .u64 y,.int .u64 (r:Int),.int .i64 p,.slice Ar nr cr,.bool raw,.int .u8 (t:Int)] 31)
    obtain ⟨bx,hbxe⟩ : ∃ bx,bx=wr.heap.size:=⟨_,rfl⟩
    rw [← hbxe] at hbo ⊢
    have hkbx:k bx=0:=by rw [hbxe];exact box_zero k _ HD.out.lt (Nat.le_refl _)
    have hbxw:w.heap.size≤bx:=by rw [hbxe];exact HD.out.below.size
    generalize wr.alloc (.cells #[.int .i64 q,.int .u32 x,.int .u64 y,.int .u64 (r:Int),.int .i64 p,.slice Ar nr cr,.bool raw,.int .u8 (t:Int)] 31)=V1 at hbx hbo ⊢
    have HD1:=Lib.hid (HD.out.then_ hbx)
    have HT1:=Lib.hid (And.intro (HT.out.1.1.then_ hbx) (HT.out.2.1.then_ hbx))
    have HU1:=Lib.hid (show Uns V1 V1.heap.size Ar nr cr l from (HFU.out.1.1.below ((HD.out.then_ hbx).below) (Nat.le_refl _)).more (HD.out.then_ hbx).below.size)
    have HKC:=Lib.hid (fun (wE:World) (hw:wE.heap[bx]?=some (.cells #[.int .i64 q,.int .u32 x,.int .u64 y,.int .u64 (r:Int),.int .i64 p,.slice Ar nr cr,.bool raw,.int .u8 (t:Int)] 31 (0,0)))=>show wE.cell? ⟨bx,0,none⟩=some (.int .i64 q)∧wE.cell? ⟨bx,1,none⟩=some (.int .u32 x)∧wE.cell? ⟨bx,2,none⟩=some (.int .u64 y)∧wE.cell? ⟨bx,3,none⟩=some (.int .u64 (r:Int))∧wE.cell? ⟨bx,4,none⟩=some (.int .i64 p)∧wE.cell? ⟨bx,5,none⟩=some (.slice Ar nr cr)∧wE.cell? ⟨bx,6,none⟩=some (.bool raw)∧wE.cell? ⟨bx,7,none⟩=some (.int .u8 (t:Int)) from ⟨by rw [cell_of_row wE bx 0 _ _ _ hw];rfl,by rw [cell_of_row wE bx 1 _ _ _ hw];rfl,by rw [cell_of_row wE bx 2 _ _ _ hw];rfl,by rw [cell_of_row wE bx 3 _ _ _ hw];rfl,by rw [cell_of_row wE bx 4 _ _ _ hw];rfl,by rw [cell_of_row wE bx 5 _ _ _ hw];rfl,by rw [cell_of_row wE bx 6 _ _ _ hw];rfl,by rw [cell_of_row wE bx 7 _ _ _ hw];rfl⟩)
    have HB:=Lib.hid (And.intro hkbx (And.intro hbxw hbo))
    clear hbx hbo hbxe hkbx hbxw a0 a1 a2 a3 a4 a5 a6 a7 HD
    -- before,was
    have hrv:=HD1.out.at_.choose_spec.2.rev
    refine hrv.mono ?_
    rintro e w' ⟨rfl,hw⟩
    rw [hw];clear hw w' hrv
    go_wp2_with fail
    refine HD1.out.text.mono ?_
    rintro e V2 ⟨Aw,cw,rfl,hwas,hb2⟩
    have HD2:=Lib.hid (HD1.out.then_ hb2)
    have HT2:=Lib.hid (And.intro (HT1.out.1.then_ hb2) (HT1.out.2.then_ hb2))
    have HU2:=Lib.hid (Rws.then_ HU1.out hb2)
    have HW2:=Lib.hid (KpC.new HD1.out.lt hwas)
    have HLT:=Lib.hid (And.intro HT2.out.1.lt HT2.out.2.lt)
    have HB2:=Lib.hid (below_old hb2 HB.out.2.2 (lt_of_block HB.out.2.2))
    obtain ⟨nw,hnw⟩ : ∃ nw,nw=d.cs.length:=⟨_,rfl⟩
    rw [← hnw] at HW2 ⊢
    have HNWL:=Lib.hid hnw
    clear hb2 hwas HD1 HT1 HU1 hnw
    obtain ⟨b0,b1,b2,b3,b4,b5,b6,b7⟩:=HKC.out V2 HB2.out
    go_wp2_with fail
    obtain ⟨X,hX⟩ : ∃ X,X=(⟨q,x,y,r,p,Ar,nr,cr,l,raw,t⟩ : ActD).does d (now2:Int):=⟨_,rfl⟩
    obtain ⟨m0,hm0,hda⟩:=HD2.out.at_
    have hdo:=does_any hda ⟨q,x,y,r,p,Ar,nr,cr,l,raw,t⟩ HFU.out.2 HU2.out (now2:Int) (Int.natCast_nonneg _) (by have:=HNW.out;have:=HJ49.out;omega) (by have:=HH.out.2;have:=HJ49.out;omega) (by have:=HJ49.out;omega)
    rw [← hX] at hdo
    have hXt:X.1.t≤j + 1:=by rw [hX];have:=does_t d (⟨q,x,y,r,p,Ar,nr,cr,l,raw,t⟩ : ActD) (now2:Int);have:=HH.out.2;omega
    have hXb:=fun h=>does_bad hda.2 (⟨q,x,y,r,p,Ar,nr,cr,l,raw,t⟩ : ActD) (now2:Int) h
    have hXr:=does_ops hda.2 (⟨q,x,y,r,p,Ar,nr,cr,l,raw,t⟩ : ActD) (now2:Int)
    have hXo:=fun h=>does_ok hda.2 (⟨q,x,y,r,p,Ar,nr,cr,l,raw,t⟩ : ActD) (now2:Int) h
    rw [← hX] at hXb hXo hXr
    refine hdo.mono ?_
    rintro e V3 ⟨k3,m3,v,rfl,hd3,hm3,hv3,A1,n1,c1,B1,p1,q1,C1,r1,s1,rfl,hr3⟩
    have HD3:=Lib.hid (show DocW w V3 D k3 X.1 ((j + 1) * 256) from (HD2.out.mv ⟨m0,m3,hm0,hm3,hd3⟩ hv3).more (by omega))
    have HT3:=Lib.hid (And.intro (HT2.out.1.mv hv3) (HT2.out.2.mv hv3))
    have HW3:=Lib.hid (HW2.out.mv hv3)
    have HB3:=Lib.hid (And.intro (hv3.old HB2.out HB.out.1) ((hv3.eq bx (lt_of_block HB2.out)).trans HB.out.1))
    have HR3:=Lib.hid hr3
    have HX:=Lib.hid (And.intro hXt (And.intro hXb (And.intro hXo hXr)))
    have HDC:=Lib.hid hda.2.p.lt4096
    obtain ⟨dX,⟨e7,rev7,wh7,tx7,op7,se7⟩⟩:=X
    simp only at HD3 HX HR3
    unfold aval
    simp only
    clear hdo hXt hXb hXo hXr hX hda hm0 hd3 hm3 hv3 hr3 HD2 HT2 HU2 HW2 HB2 HFU b0 b1 b2 b3 b4 b5 b6 b7
    by_cases he:e7=0
    ·subst he
     have HXO:=Lib.hid (And.intro (HX.out.2.2.1 rfl) HX.out.2.2.2)
     have HXT:=Lib.hid HX.out.1
     clear HX
     go_wp2_with fail
     have hbA:=below_box V3 (.cells #[.int .i64 0,.int .u32 0,.int .u64 (rev7:Int),.bool wh7,.slice A1 n1 c1,.slice B1 p1 q1,.slice C1 r1 s1] 37)
     have hAN:AnAt (V3.alloc (.cells #[.int .i64 0,.int .u32 0,.int .u64 (rev7:Int),.bool wh7,.slice A1 n1 c1,.slice B1 p1 q1,.slice C1 r1 s1] 37)) V3.heap.size 0 (rev7:Int) wh7 A1 n1 c1 B1 p1 q1 C1 r1 s1:=heap_alloc_new V3 _
     obtain ⟨al,hal⟩ : ∃ al,al=V3.heap.size:=⟨_,rfl⟩
     rw [← hal] at hAN ⊢
     have hkal:k3 al=0:=by rw [hal];exact box_zero k3 _ HD3.out.lt (Nat.le_refl _)
     have halw:w.heap.size≤al:=by rw [hal];exact HD3.out.below.size
     generalize V3.alloc (.cells #[.int .i64 0,.int .u32 0,.int .u64 (rev7:Int),.bool wh7,.slice A1 n1 c1,.slice B1 p1 q1,.slice C1 r1 s1] 37)=V4 at hbA hAN ⊢
     have HD4:=Lib.hid (HD3.out.then_ hbA)
     have HT4:=Lib.hid (And.intro (HT3.out.1.then_ hbA) (HT3.out.2.then_ hbA))
     have HW4:=Lib.hid (HW3.out.then_ hbA)
     have HB4:=Lib.hid (And.intro (below_old hbA HB3.out.1 (lt_of_block HB3.out.1)) HB3.out.2)
     have HAN4:=Lib.hid (And.intro hAN (And.intro hkal halw))
     have HR4:=Lib.hid (HR3.out.tn (Tn.of (fun _=>False) hbA) (fun _ _ h=>h))
     clear hbA hAN hal hkal halw HD3 HT3 HW3 HB3 HR3
     generalize hn0:d.now=n0
     have HN0:=Lib.hid hn0
     clear hn0
     rcases HXO.out.1.one with ⟨hkp,hq3⟩ | ⟨hq23,hmk⟩
     ·as_aux_lemma =>
       have HK:=Lib.hid (show Pl.Dc.Keeps d dX ⟨0,rev7,wh7,tx7,op7,se7⟩ _ from hkp)
       have HQ3:=Lib.hid (show q≠3 from hq3)
       clear hkp hq3
       have hdn:dX.now=n0:=by rw [HK.out.now];exact HN0.out
       have hrv:=HD4.out.rev
       rw [hdn] at hrv
       have HQR:=Lib.hid (fun i=>by have h:=(HD4.out.drewN i).rev;rw [hdn] at h;exact h)
       have HQF:=Lib.hid (fun i=>(HD4.out.drewN i).from_)
       have hfr:dX.fr≤n0:=by rw [← hdn];exact Nat.le_add_right _ _
       have hrevq:=HXO.out.1.rev
       simp only at hrevq
       rw [hdn] at hrevq
       have HRQ:=Lib.hid hrevq
       have HFR:=Lib.hid hfr
       have HDN:=Lib.hid hdn
       clear hdn hfr hrevq
       refine hrv.mono ?_
       rintro e w' ⟨rfl,hw⟩
       rw [hw];clear hw w' hrv
       go_upto_region 18 with fail
       go_cut [119] (fun C wx=>C=.bool false∧Below V4.heap.size V4 wx)
       case first =>
        as_aux_lemma =>
         obtain ⟨b0,b1,b2,b3,b4,b5,b6,b7⟩:=HKC.out V4 HB4.out.1
         obtain ⟨c0,c1',c2,c3,c4,c5,c6⟩:=HAN4.out.1.cells
         clear b1 b2 b3 b4 b5 b6 b7 c0 c1' c3 c4 c5 c6
         have f1:decide ((dX.fr:Int) > (n0:Int))=false:=decide_eq_false (by have:=HFR.out;omega)
         have f2:decide ((n0:Int)<(dX.fr:Int))=false:=decide_eq_false (by have:=HFR.out;omega)
         have f3:decide (n0<dX.fr)=false:=decide_eq_false (by have:=HFR.out;omega)
         by_cases h0:0≤q
         ·by_cases h8:q<8
          ·have hr7:=HRQ.out ⟨h0,h8⟩
           subst hr7
           have g1:decide (q≥0)=true:=decide_eq_true h0
           have g2:decide (0≤q)=true:=decide_eq_true h0
           have g3:decide (q<8)=true:=decide_eq_true h8
           clear h0 h8
           go_wp2_with fail
           go_quiet (first | (go_at_call 17;exact quiet_of (HQR.out _)) | (go_at_call 26;exact quiet_of (HQF.out _)))
           go_wp2_with fail
           go_meet
           exact ⟨rfl,below_drewN _ _⟩
          ·have g1:decide (q≥0)=true:=decide_eq_true h0
           have g2:decide (0≤q)=true:=decide_eq_true h0
           have g3:decide (q<8)=false:=decide_eq_false h8
           clear h0 h8 c2
           go_wp2_with fail
           go_quiet (first | (go_at_call 17;exact quiet_of (HQR.out _)) | (go_at_call 26;exact quiet_of (HQF.out _)))
           go_wp2_with fail
           go_meet
           exact ⟨rfl,below_drewN _ _⟩
         ·have g1:decide (q≥0)=false:=decide_eq_false h0
          have g2:decide (0≤q)=false:=decide_eq_false h0
          clear h0 c2
          go_wp2_with fail
          go_quiet (first | (go_at_call 17;exact quiet_of (HQR.out _)) | (go_at_call 26;exact quiet_of (HQF.out _)))
          go_wp2_with fail
          go_meet
          exact ⟨rfl,below_drewN _ _⟩
       case rest =>
        obtain ⟨rfl,hbc⟩:=hcut
        obtain ⟨V9,hV9⟩ : ∃ V9,V9=wc:=⟨_,rfl⟩
        rw [← hV9] at hbc ⊢
        clear hV9 wc
        obtain ⟨H9,hH9⟩ : ∃ H9,H9=H:=⟨_,rfl⟩
        obtain ⟨O9,hO9⟩ : ∃ O9,O9=O:=⟨_,rfl⟩
        obtain ⟨nt9,hnt9⟩ : ∃ nt9,nt9=nt:=⟨_,rfl⟩
        obtain ⟨no9',hno9⟩ : ∃ no9',no9'=no:=⟨_,rfl⟩
        have hhk:=HK.out.hist H O HH.out.1
        rw [← hH9,← hO9] at hhk
        have HH9:=Lib.hid hhk.1
        have HTELL0:=Lib.hid hhk.2
        have HD9:=Lib.hid (HD4.out.then_ hbc)
        have hu9:=HT4.out.1.then_ hbc
        have ho9:=HT4.out.2.then_ hbc
        rw [HN0.out,← HDN.out,← hnt9] at hu9
        rw [← hO9,← hno9] at ho9
        have HT9:=Lib.hid (show (UptoM V9 k3 mt nt9 dX.now∧nt9≤j + 1 + 1)∧OpsM V9 k3 mo no9' O9∧no9'≤j + 1 from ⟨⟨hu9,by have:=HT.out.1.2;omega⟩,ho9,by have:=HT.out.2.2;omega⟩)
        have HB9:=Lib.hid (And.intro (below_old hbc HB4.out.1 (lt_of_block HB4.out.1)) HB4.out.2)
        have HAN9:=Lib.hid (And.intro (HAN4.out.1.then_ hbc) HAN4.out.2)
        have HR9:=Lib.hid (HR4.out.tn (Tn.of (fun _=>False) hbc) (fun _ _ h=>h))
        have HWH:=Lib.hid (fun h:wh7=true=>show tx7=dX.cs from (HK.out.whole h).trans HK.out.cs.symm)
        have HREV1:=Lib.hid (fun h:q=3=>show 1≤rev7 from absurd h HQ3.out)
        clear hH9 hO9 hnt9 hno9 hhk hbc hu9 ho9 HD4 HT4 HW4 HB4 HAN4 HR4 HQR HQF HRQ HFR
        go_wp2_with fail
        as_aux_lemma =>
         obtain ⟨c0,c1',c2,c3,c4,c5,c6⟩:=HAN9.out.1.cells
         have HKA:=Lib.hid (fun (wE:World) (hb:Below V9.heap.size V9 wE)=>And.intro (HAN9.out.1.then_ hb).cells.2.2.2.1 (HAN9.out.1.then_ hb).cells.2.2.2.2.1)
         have HTX:=Lib.hid (HD9.out.then_ (below_drawn (Below.refl _ _))).text
         have HEQT:=Lib.hid (fun (hw:wh7=true) (wE:World) (hb:Below V9.heap.size V9 wE) At ct base (ho:OwnC wE base (.slice At dX.cs.length ct) dX.cs)=>show Calls Tryz.prog 30 #[.slice A1 n1 c1,.slice At dX.cs.length ct] wE fun e w'=>e=.returned (.bool true)∧Below wE.heap.size wE w' from by
          have h:=equalC_any A1 At n1 c1 dX.cs.length ct tx7 dX.cs wE (HR9.out.text.1.then_ hb) ho.crs.2
          rw [decide_eq_true (HWH.out hw)] at h
          exact h)
         go_upto_region 28 with fail
         go_cut [174] (fun C wx=>C=.bool false∧Below V9.heap.size V9 wx)
         case first =>
          as_aux_lemma =>
           cases wh7 with
           | false =>
            go_wp2_with fail
            go_quiet (fail)
            go_wp2_with fail
            go_meet
            exact ⟨rfl,below_drewN _ _⟩
           | true =>
            go_wp2_with fail
            go_region_held3 (fun w'=>w'.cell? ⟨al,3,none⟩=some (.bool true)∧w'.cell? ⟨al,4,none⟩=some (.slice A1 n1 c1))
             (first | go_keep | (go_split_ands;exact HKA.out _ (below_drew hbT)) | (go_split_ands;exact HKA.out _ (below_then (below_drew hbT) hbE)))
             (first | (go_at_call 24;refine HTX.out.mono ?_;rintro e wT ⟨At,ct,rfl,hoT,hbT⟩) | (go_at_call 30;refine (HEQT.out (by first | trivial | rfl) _ (below_drew hbT) At ct _ hoT).mono ?_;rintro e wE ⟨rfl,hbE⟩))
            go_wp2_with fail
            go_meet
            exact ⟨rfl,below_then (below_drew hbT) hbE⟩
         case rest =>
          obtain ⟨rfl,hbc⟩:=hcut
          obtain ⟨VT,hVT⟩ : ∃ VT,VT=wc:=⟨_,rfl⟩
          rw [← hVT] at hbc ⊢
          clear hVT wc
          have hR:=HR9.out.tn (Tn.of (fun _=>False) hbc) (fun _ _ h=>h)
          obtain ⟨L9,hL9,hL8⟩:=hR.ops
          have hL8:L9.map OpV.op=op7:=hL8
          have hp1:p1=op7.length:=by rw [← hL9.1.len,← hL8,List.length_map]
          have HO9:=Lib.hid (And.intro hL9 (And.intro hL8 hp1))
          have HD9:=Lib.hid (HD9.out.then_ hbc)
          have HT9:=Lib.hid (And.intro (And.intro (HT9.out.1.1.then_ hbc) HT9.out.1.2) (And.intro (HT9.out.2.1.then_ hbc) HT9.out.2.2))
          obtain ⟨c0,c1',c2,c3,c4,c5,c6⟩:=(HAN9.out.1.then_ hbc).cells
          have hbq:VT.cell? ⟨bx,0,none⟩=some (.int .i64 q):=(HKC.out VT (below_old hbc HB9.out.1 (lt_of_block HB9.out.1))).1
          have hbr:VT.cell? ⟨bx,3,none⟩=some (.int .u64 (r:Int)):=(HKC.out VT (below_old hbc HB9.out.1 (lt_of_block HB9.out.1))).2.2.2.1
          have hle:=HXO.out.1.len
          have hle2:=HXO.out.1.le
          simp only at hle hle2
          have hrevN:dX.now≤1099511627776:=HD9.out.ok.p.rev
          have hfirst:(⟨q,x,y,r,p,Ar,nr,cr,l,raw,t⟩ : ActD).first (dX,(⟨0,rev7,wh7,tx7,op7,se7⟩ : Pl.An))=if q=5 then r else if q=3 then rev7 - 1 else rev7 - op7.length:=rfl
          have htop:=HXO.out.1.top
          rw [hfirst] at htop
          simp only at htop
          have htell:=HTELL0.out
          rw [hfirst] at htell
          obtain ⟨G,hG⟩ : ∃ G,G=rev7 - p1:=⟨_,rfl⟩
          have u5:IntKind.u64.wrap (p1:Int)=(p1:Int):=by rw [IntKind.wrap_u64];omega
          have u6:IntKind.u64.wrap ((rev7:Int) - (p1:Int))=(G:Int):=by rw [IntKind.wrap_u64];omega
          rw [← hp1] at htop hle
          have hpb:(p1:Int)≤1099511627776:=by omega
          have hne7:0<p1→op7≠[]:=fun h e=>by rw [hp1,e] at h;exact absurd h (Nat.lt_irrefl _)
          by_cases hq5:q=5
          ·rw [if_pos hq5] at htop htell
           have v5:(q == 5)=true:=by simpa using hq5
           have v3:(q == 3)=false:=by simp;omega
           have HTOP:=Lib.hid (fun (h:0<p1)=>show r + p1≤1099511627776 from by have:=htop (hne7 h);omega)
           have HTELL:=Lib.hid htell
           clear hbc hR hL9 hL8 hp1 hle hle2 hrevN hfirst htop htell hG hne7 hq5
           go_wp2_with fail
           as_aux_lemma =>
            go_loopw [196] (fun i wr=>InR VT p1 i wr) (fun i _=>p1 - (intOf i).toNat)
            case atStart=>exact ⟨0,rfl,Nat.zero_le _,Below.refl _ _⟩
            case round =>
             obtain ⟨i2,rfl,hi2,hbi⟩:=hrel
             by_cases hlt2:i2<p1
             ·have hP:=HO9.out.1.then_ hbi
              obtain ⟨g2,o2,hB1e,hg2,_,hc2⟩:=hP.at_ hlt2
              cases hB1e
              obtain ⟨a0,a1,a2,a3⟩:=hc2 i2 hlt2
              have hgd:=hP.getD_ hlt2
              have hopl:(op7.getD i2 default).l=(L9.getD i2 default).l:=by
               rw [← HO9.out.2.1,List.getD_eq_getElem?_getD,List.getElem?_map,List.getD_eq_getElem?_getD,List.getElem?_eq_getElem (by rw [HO9.out.1.1.len];exact hlt2)]
               rfl
              have htell:(op7.getD i2 default).l=O9 (r + i2 + 1):=HTELL.out i2 (by first | exact hlt2 | (show i2<op7.length;rw [← HO9.out.2.2];exact hlt2))
              rw [hopl] at htell
              obtain ⟨⟨xo,yo,Ao,no9,co,lo,bo⟩,hq9⟩ : ∃ q9,q9=L9.getD i2 default:=⟨_,rfl⟩
              rw [← hq9] at a0 a1 a2 a3 hgd htell
              simp only at a0 a1 a2 a3 hgd htell
              have HTL:=Lib.hid htell
              have y0:(0:Int)≤(i2:Int):=Int.natCast_nonneg _
              have y1:(i2:Int)<(p1:Int):=Int.ofNat_lt.2 hlt2
              have HMS2:=Lib.hid (show p1 - (i2 + 1)<p1 - i2 by omega)
              have hky:=HTOP.out (by omega)
              obtain ⟨KY,hKY⟩ : ∃ KY,KY=r + i2 + 1:=⟨_,rfl⟩
              obtain ⟨K0,hK0⟩ : ∃ K0,K0=r + i2:=⟨_,rfl⟩
              have u1:IntKind.u64.wrap (i2:Int)=(i2:Int):=by rw [IntKind.wrap_u64];omega
              have u2:IntKind.u64.wrap ((r:Int) + (i2:Int))=(K0:Int):=by rw [IntKind.wrap_u64];omega
              have u3:IntKind.u64.wrap ((K0:Int) + 1)=(KY:Int):=by rw [IntKind.wrap_u64];omega
              have hbx2:=below_box wr (.cells #[.int .u32 xo,.int .u64 yo,.slice Ao no9 co,.bool bo] 45)
              have hKb:KY≤1099511627776:=by omega
              have hlk0:=look_then HT9.out.2.1 hbi hbx2 KY hKb
              obtain ⟨Ak,mk,ck,hlk,huk⟩:=hlk0
              have hEQ:=equalU_any Ak Ao mk ck no9 co (O9 KY) lo (wr.alloc (.cells #[.int .u32 xo,.int .u64 yo,.slice Ao no9 co,.bool bo] 45)) huk (Rws.then_ hgd.1 hbx2)
              rw [decide_eq_true (show O9 KY=lo by rw [hKY];exact HTL.out.symm)] at hEQ
              have HEQ:=Lib.hid hEQ
              have HBI:=Lib.hid (below_then hbi hbx2)
              clear hP hc2 hgd hopl htell hq9 hKY hK0 hky hbx2 huk hEQ hbi
              go_wp2_with fail
              refine HEQ.out.mono ?_
              rintro e w9 ⟨rfl,hb9⟩
              have HB9':=Lib.hid (below_then HBI.out hb9)
              clear hb9 HEQ hlk u1 u2 u3
              go_wp2_with fail
              go_roundw
              case rel=>exact ⟨i2 + 1,by go_num,hlt2,HB9'.out⟩
              case measure=>simp [intOf];(have:=HMS2.out;omega)
             ·have HBI:=Lib.hid hbi
              clear hbi
              go_wp2_with fail
              go_roundw
              case rel =>
               exact ⟨j + 1,now2,k3,dX,H9,O9,nt9,no9',by go_num,rfl,⟨hjL,HJ49.out,HNW.out.1⟩,HD9.out.then_ HBI.out,HXT.out,HH9.out,⟨HT9.out.1.1.then_ HBI.out,HT9.out.1.2⟩,⟨HT9.out.2.1.then_ HBI.out,HT9.out.2.2⟩,HN.out⟩
              case measure=>simp [intOf];(have:=HMS.out;omega)
          ·by_cases hq3:q=3
           ·rw [if_neg hq5,if_pos hq3] at htop htell
            have v5:(q == 5)=false:=by simpa using hq5
            have v3:(q == 3)=true:=by simpa using hq3
            obtain ⟨G3,hG3⟩ : ∃ G3,G3=rev7 - 1:=⟨_,rfl⟩
            have hr1:=HREV1.out hq3
            have u7:IntKind.u64.wrap ((rev7:Int) - 1)=(G3:Int):=by rw [IntKind.wrap_u64];omega
            rw [← hG3] at htop htell
            have HTOP:=Lib.hid (fun (h:0<p1)=>show G3 + p1≤1099511627776 from by have:=htop (hne7 h);omega)
            have HTELL:=Lib.hid htell
            clear hbc hR hL9 hL8 hp1 hle hle2 hrevN hfirst htop htell hG hG3 hne7 hq5 hq3 hr1
            go_wp2_with fail
            as_aux_lemma =>
             go_loopw [196] (fun i wr=>InR VT p1 i wr) (fun i _=>p1 - (intOf i).toNat)
             case atStart=>exact ⟨0,rfl,Nat.zero_le _,Below.refl _ _⟩
             case round =>
              obtain ⟨i2,rfl,hi2,hbi⟩:=hrel
              by_cases hlt2:i2<p1
              ·have hP:=HO9.out.1.then_ hbi
               obtain ⟨g2,o2,hB1e,hg2,_,hc2⟩:=hP.at_ hlt2
               cases hB1e
               obtain ⟨a0,a1,a2,a3⟩:=hc2 i2 hlt2
               have hgd:=hP.getD_ hlt2
               have hopl:(op7.getD i2 default).l=(L9.getD i2 default).l:=by
                rw [← HO9.out.2.1,List.getD_eq_getElem?_getD,List.getElem?_map,List.getD_eq_getElem?_getD,List.getElem?_eq_getElem (by rw [HO9.out.1.1.len];exact hlt2)]
                rfl
               have htell:(op7.getD i2 default).l=O9 (G3 + i2 + 1):=HTELL.out i2 (by first | exact hlt2 | (show i2<op7.length;rw [← HO9.out.2.2];exact hlt2))
               rw [hopl] at htell
               obtain ⟨⟨xo,yo,Ao,no9,co,lo,bo⟩,hq9⟩ : ∃ q9,q9=L9.getD i2 default:=⟨_,rfl⟩
               rw [← hq9] at a0 a1 a2 a3 hgd htell
               simp only at a0 a1 a2 a3 hgd htell
               have HTL:=Lib.hid htell
               have y0:(0:Int)≤(i2:Int):=Int.natCast_nonneg _
               have y1:(i2:Int)<(p1:Int):=Int.ofNat_lt.2 hlt2
               have HMS2:=Lib.hid (show p1 - (i2 + 1)<p1 - i2 by omega)
               have hky:=HTOP.out (by omega)
               obtain ⟨KY,hKY⟩ : ∃ KY,KY=G3 + i2 + 1:=⟨_,rfl⟩
               obtain ⟨K0,hK0⟩ : ∃ K0,K0=G3 + i2:=⟨_,rfl⟩
               have u1:IntKind.u64.wrap (i2:Int)=(i2:Int):=by rw [IntKind.wrap_u64];omega
               have u2:IntKind.u64.wrap ((G3:Int) + (i2:Int))=(K0:Int):=by rw [IntKind.wrap_u64];omega
               have u3:IntKind.u64.wrap ((K0:Int) + 1)=(KY:Int):=by rw [IntKind.wrap_u64];omega
               have hbx2:=below_box wr (.cells #[.int .u32 xo,.int .u64 yo,.slice Ao no9 co,.bool bo] 45)
               have hKb:KY≤1099511627776:=by omega
               have hlk0:=look_then HT9.out.2.1 hbi hbx2 KY hKb
               obtain ⟨Ak,mk,ck,hlk,huk⟩:=hlk0
               have hEQ:=equalU_any Ak Ao mk ck no9 co (O9 KY) lo (wr.alloc (.cells #[.int .u32 xo,.int .u64 yo,.slice Ao no9 co,.bool bo] 45)) huk (Rws.then_ hgd.1 hbx2)
               rw [decide_eq_true (show O9 KY=lo by rw [hKY];exact HTL.out.symm)] at hEQ
               have HEQ:=Lib.hid hEQ
               have HBI:=Lib.hid (below_then hbi hbx2)
               clear hP hc2 hgd hopl htell hq9 hKY hK0 hky hbx2 huk hEQ hbi
               go_wp2_with fail
               refine HEQ.out.mono ?_
               rintro e w9 ⟨rfl,hb9⟩
               have HB9':=Lib.hid (below_then HBI.out hb9)
               clear hb9 HEQ hlk u1 u2 u3
               go_wp2_with fail
               go_roundw
               case rel=>exact ⟨i2 + 1,by go_num,hlt2,HB9'.out⟩
               case measure=>simp [intOf];(have:=HMS2.out;omega)
              ·have HBI:=Lib.hid hbi
               clear hbi
               go_wp2_with fail
               go_roundw
               case rel =>
                exact ⟨j + 1,now2,k3,dX,H9,O9,nt9,no9',by go_num,rfl,⟨hjL,HJ49.out,HNW.out.1⟩,HD9.out.then_ HBI.out,HXT.out,HH9.out,⟨HT9.out.1.1.then_ HBI.out,HT9.out.1.2⟩,⟨HT9.out.2.1.then_ HBI.out,HT9.out.2.2⟩,HN.out⟩
               case measure=>simp [intOf];(have:=HMS.out;omega)
           ·rw [if_neg hq5,if_neg hq3,← hG] at htop
            rw [if_neg hq5,if_neg hq3,← hp1,← hG] at htell
            have v5:(q == 5)=false:=by simpa using hq5
            have v3:(q == 3)=false:=by simpa using hq3
            have HTOP:=Lib.hid (fun (h:0<p1)=>show G + p1≤1099511627776 from by have:=htop (hne7 h);omega)
            have HTELL:=Lib.hid htell
            clear hbc hR hL9 hL8 hp1 hle hle2 hrevN hfirst htop htell hG hne7 hq5 hq3
            go_wp2_with fail
            as_aux_lemma =>
             go_loopw [196] (fun i wr=>InR VT p1 i wr) (fun i _=>p1 - (intOf i).toNat)
             case atStart=>exact ⟨0,rfl,Nat.zero_le _,Below.refl _ _⟩
             case round =>
              obtain ⟨i2,rfl,hi2,hbi⟩:=hrel
              by_cases hlt2:i2<p1
              ·have hP:=HO9.out.1.then_ hbi
               obtain ⟨g2,o2,hB1e,hg2,_,hc2⟩:=hP.at_ hlt2
               cases hB1e
               obtain ⟨a0,a1,a2,a3⟩:=hc2 i2 hlt2
               have hgd:=hP.getD_ hlt2
               have hopl:(op7.getD i2 default).l=(L9.getD i2 default).l:=by
                rw [← HO9.out.2.1,List.getD_eq_getElem?_getD,List.getElem?_map,List.getD_eq_getElem?_getD,List.getElem?_eq_getElem (by rw [HO9.out.1.1.len];exact hlt2)]
                rfl
               have htell:(op7.getD i2 default).l=O9 (G + i2 + 1):=HTELL.out i2 (by first | exact hlt2 | (show i2<op7.length;rw [← HO9.out.2.2];exact hlt2))
               rw [hopl] at htell
               obtain ⟨⟨xo,yo,Ao,no9,co,lo,bo⟩,hq9⟩ : ∃ q9,q9=L9.getD i2 default:=⟨_,rfl⟩
               rw [← hq9] at a0 a1 a2 a3 hgd htell
               simp only at a0 a1 a2 a3 hgd htell
               have HTL:=Lib.hid htell
               have y0:(0:Int)≤(i2:Int):=Int.natCast_nonneg _
               have y1:(i2:Int)<(p1:Int):=Int.ofNat_lt.2 hlt2
               have HMS2:=Lib.hid (show p1 - (i2 + 1)<p1 - i2 by omega)
               have hky:=HTOP.out (by omega)
               obtain ⟨KY,hKY⟩ : ∃ KY,KY=G + i2 + 1:=⟨_,rfl⟩
               obtain ⟨K0,hK0⟩ : ∃ K0,K0=G + i2:=⟨_,rfl⟩
               have u1:IntKind.u64.wrap (i2:Int)=(i2:Int):=by rw [IntKind.wrap_u64];omega
               have u2:IntKind.u64.wrap ((G:Int) + (i2:Int))=(K0:Int):=by rw [IntKind.wrap_u64];omega
               have u3:IntKind.u64.wrap ((K0:Int) + 1)=(KY:Int):=by rw [IntKind.wrap_u64];omega
               have hbx2:=below_box wr (.cells #[.int .u32 xo,.int .u64 yo,.slice Ao no9 co,.bool bo] 45)
               have hKb:KY≤1099511627776:=by omega
               have hlk0:=look_then HT9.out.2.1 hbi hbx2 KY hKb
               obtain ⟨Ak,mk,ck,hlk,huk⟩:=hlk0
               have hEQ:=equalU_any Ak Ao mk ck no9 co (O9 KY) lo (wr.alloc (.cells #[.int .u32 xo,.int .u64 yo,.slice Ao no9 co,.bool bo] 45)) huk (Rws.then_ hgd.1 hbx2)
               rw [decide_eq_true (show O9 KY=lo by rw [hKY];exact HTL.out.symm)] at hEQ
               have HEQ:=Lib.hid hEQ
               have HBI:=Lib.hid (below_then hbi hbx2)
               clear hP hc2 hgd hopl htell hq9 hKY hK0 hky hbx2 huk hEQ hbi
               go_wp2_with fail
               refine HEQ.out.mono ?_
               rintro e w9 ⟨rfl,hb9⟩
               have HB9':=Lib.hid (below_then HBI.out hb9)
               clear hb9 HEQ hlk u1 u2 u3
               go_wp2_with fail
               go_roundw
               case rel=>exact ⟨i2 + 1,by go_num,hlt2,HB9'.out⟩
               case measure=>simp [intOf];(have:=HMS2.out;omega)
              ·have HBI:=Lib.hid hbi
               clear hbi
               go_wp2_with fail
               go_roundw
               case rel =>
                exact ⟨j + 1,now2,k3,dX,H9,O9,nt9,no9',by go_num,rfl,⟨hjL,HJ49.out,HNW.out.1⟩,HD9.out.then_ HBI.out,HXT.out,HH9.out,⟨HT9.out.1.1.then_ HBI.out,HT9.out.1.2⟩,⟨HT9.out.2.1.then_ HBI.out,HT9.out.2.2⟩,HN.out⟩
               case measure=>simp [intOf];(have:=HMS.out;omega)
     ·as_aux_lemma =>
       have HMK:=Lib.hid (show Pl.Dc.Makes d dX ⟨0,rev7,wh7,tx7,op7,se7⟩ _ from hmk)
       have HQ:=Lib.hid (show q=2∨q=3 from hq23)
       clear hmk hq23
       obtain ⟨nA,hnA⟩ : ∃ nA,nA=n0 + 1:=⟨_,rfl⟩
       have hdn:dX.now=nA:=by rw [HMK.out.now,HN0.out,hnA]
       have hnb:nA≤1099511627776:=by rw [← hdn];exact HD4.out.ok.p.rev
       have hrevq:=HXO.out.1.rev (by show 0≤q∧q<8;rcases HQ.out with e | e <;> omega)
       simp only at hrevq
       rw [hdn] at hrevq
       have hrv:=HD4.out.rev
       rw [hdn] at hrv
       have HQR:=Lib.hid (fun i=>by have h:=(HD4.out.drewN i).rev;rw [hdn] at h;exact h)
       have HQF:=Lib.hid (fun i=>(HD4.out.drewN i).from_)
       have hfr:dX.fr≤nA:=by rw [← hdn];exact Nat.le_add_right _ _
       have v1:IntKind.u64.wrap ((nA:Int) - (n0:Int))=1:=by rw [IntKind.wrap_u64];omega
       have HNA:=Lib.hid (And.intro hnA (And.intro hdn (And.intro hrevq hnb)))
       have HFR:=Lib.hid hfr
       clear hnA hdn hnb hrevq hfr
       refine hrv.mono ?_
       rintro e w' ⟨rfl,hw⟩
       rw [hw];clear hw w' hrv
       go_upto_region 18 with fail
       go_cut [119] (fun C wx=>C=.bool false∧Below V4.heap.size V4 wx)
       case first =>
        as_aux_lemma =>
         obtain ⟨b0,b1,b2,b3,b4,b5,b6,b7⟩:=HKC.out V4 HB4.out.1
         obtain ⟨c0,c1',c2,c3,c4,c5,c6⟩:=HAN4.out.1.cells
         clear b1 b2 b3 b4 b5 b6 b7 c0 c1' c3 c4 c5 c6
         have f1:decide ((dX.fr:Int) > (nA:Int))=false:=decide_eq_false (by have:=HFR.out;omega)
         have f2:decide ((nA:Int)<(dX.fr:Int))=false:=decide_eq_false (by have:=HFR.out;omega)
         have f3:decide (nA<dX.fr)=false:=decide_eq_false (by have:=HFR.out;omega)
         have hr7:=HNA.out.2.2.1
         clear v1
         subst hr7
         rcases HQ.out with hq2 | hq2
         ·subst hq2
          go_wp2_with fail
          go_quiet (first | (go_at_call 17;exact quiet_of (HQR.out _)) | (go_at_call 26;exact quiet_of (HQF.out _)))
          go_wp2_with fail
          go_meet
          exact ⟨rfl,below_drewN _ _⟩
         ·subst hq2
          go_wp2_with fail
          go_quiet (first | (go_at_call 17;exact quiet_of (HQR.out _)) | (go_at_call 26;exact quiet_of (HQF.out _)))
          go_wp2_with fail
          go_meet
          exact ⟨rfl,below_drewN _ _⟩
       case rest =>
        obtain ⟨rfl,hbc⟩:=hcut
        obtain ⟨V5,hV5⟩ : ∃ V5,V5=wc:=⟨_,rfl⟩
        rw [← hV5] at hbc ⊢
        clear hV5 wc v1
        have hL:=HR4.out.tn (Tn.of (fun _=>False) hbc) (fun _ _ h=>h)
        obtain ⟨L5,hL5,hL6⟩:=hL.ops
        have hL6:L5.map OpV.op=op7:=hL6
        have hp1:p1=op7.length:=by rw [← hL5.1.len,← hL6,List.length_map]
        have hne:op7≠[]:=HMK.out.ne
        have hpos:0<p1:=by rw [hp1];exact List.length_pos_iff.2 hne
        obtain ⟨P0,hP0⟩ : ∃ P0,P0=p1 - 1:=⟨_,rfl⟩
        have hlt5:P0<p1:=by omega
        have hpb:p1≤1099511627776:=by
         have h1:op7.length≤rev7:=HXO.out.1.len
         have h2:=HNA.out.2.2.1
         have h3:=HNA.out.2.2.2
         omega
        obtain ⟨g2,o2,rfl,hg2,_,hc2⟩:=hL5.at_ hlt5
        obtain ⟨a0,a1,a2,a3⟩:=hc2 P0 hlt5
        have hgd:=hL5.getD_ hlt5
        have hlt6:P0<op7.length:=by rw [← hp1];exact hlt5
        have hopl:(op7.getD P0 default).l=(L5.getD P0 default).l:=by
         rw [← hL6,List.getD_eq_getElem?_getD,List.getElem?_map,List.getD_eq_getElem?_getD,List.getElem?_eq_getElem (by rw [hL5.1.len];exact hlt5)]
         rfl
        have hlst:Pl.Dc.lastL ⟨0,rev7,wh7,tx7,op7,se7⟩=(op7.getD P0 default).l:=by
         unfold Pl.Dc.lastL
         rw [hP0,hp1]
        have hmem:op7.getD P0 default ∈ op7:=by
         rw [List.getD_eq_getElem?_getD,List.getElem?_eq_getElem hlt6]
         exact List.getElem_mem _
        have hl256:(op7.getD P0 default).l.length≤256:=HXO.out.2 _ hmem
        rw [hopl] at hlst hl256
        obtain ⟨⟨xo,yo,Ao,no9,co,lo,bo⟩,hq9⟩ : ∃ q9,q9=L5.getD P0 default:=⟨_,rfl⟩
        rw [← hq9] at a0 a1 a2 a3 hgd hlst hl256
        simp only at a0 a1 a2 a3 hgd hlst hl256
        have hfit:Pl.FitR lo d.cs:=by rw [← hlst];exact HMK.out.fit
        have hlv:Pl.leave lo d.cs=dX.cs:=by rw [← hlst];exact HMK.out.lv
        have hno:lo.length=no9:=hgd.1.len
        have hAP:=applyR_fit Aw nw cw d.cs Ao no9 co lo V5 (HW4.out.then_ hbc).crs hgd.1 (by have h1:=HDC.out;have h2:=HNWL.out;omega) (by omega) hfit
        rw [hlv] at hAP
        have HAP:=Lib.hid hAP
        have HKU:=Lib.hid (show KpU V5 k3 Ao no9 co lo from ⟨hgd.1,fun h0 ad e hn=>hn (hgd.2 h0 ad e).2⟩)
        have HLS:=Lib.hid hlst
        have HBC:=Lib.hid hbc
        have z5:((p1:Int) == 0)=false:=by simp;omega
        have z6:decide ((p1:Int)=0)=false:=decide_eq_false (by omega)
        have u8:IntKind.i64.wrap ((p1:Int) - 1)=(P0:Int):=by rw [IntKind.wrap_i64];omega
        have y0:(0:Int)≤(P0:Int):=Int.natCast_nonneg _
        have y1:(P0:Int)<(p1:Int):=Int.ofNat_lt.2 hlt5
        obtain ⟨c0,c1',c2,c3,c4,c5,c6⟩:=(HAN4.out.1.then_ hbc).cells
        clear hL hL5 hL6 hp1 hne hpos hP0 hlt5 hpb hg2 hc2 hgd hlt6 hopl hlst hmem hl256 hq9 hfit hlv hno hAP hbc c0 c1' c2 c3 c4 c6
        go_wp2_with fail
        refine HAP.out.mono ?_
        rintro e V6 ⟨A6,m6,rfl,ho6,hb6⟩
        have HC6:=Lib.hid ho6.crs.2
        have HB6:=Lib.hid (below_then HBC.out hb6)
        have HKU:=Lib.hid (HKU.out.then_ hb6)
        clear z5 z6 u8 y0 y1 c5 a0 a1 a2 a3 ho6 hb6 HAP
        go_wp2_with fail
        refine (HD4.out.then_ HB6.out).text.mono ?_
        rintro e V7 ⟨At,ct,rfl,hot,hb7⟩
        have hEQ:=equalC_any A6 At dX.cs.length m6 dX.cs.length ct dX.cs dX.cs V7 (HC6.out.then_ hb7) hot.crs.2
        rw [decide_eq_true (show dX.cs=dX.cs from rfl)] at hEQ
        have HEQ:=Lib.hid hEQ
        have HB7:=Lib.hid (below_then HB6.out hb7)
        have HKU:=Lib.hid (HKU.out.then_ hb7)
        obtain ⟨lX,hlX⟩ : ∃ lX,lX=dX.cs.length:=⟨_,rfl⟩
        have hl4:lX≤4096:=by rw [hlX];exact HMK.out.top
        rw [← hlX] at HEQ ⊢
        have z7:decide ((lX:Int) > 4096)=false:=decide_eq_false (by omega)
        have z8:decide (4096<(lX:Int))=false:=decide_eq_false (by omega)
        clear hot hb7 hEQ hl4 hlX HB6
        go_wp2_with fail
        refine HEQ.out.mono ?_
        rintro e V8 ⟨rfl,hb8⟩
        have hBV:=below_then HB7.out hb8
        have hu8:=HT4.out.1.then_ hBV
        rw [HN0.out] at hu8
        have ho8:=HT4.out.2.then_ hBV
        have hK8:=HKU.out.then_ hb8
        have hd8:=HD4.out.then_ hBV
        have ha8:=HAN4.out.1.then_ hBV
        have hb8':=below_old hBV HB4.out.1 (lt_of_block HB4.out.1)
        have hr8:=HR4.out.tn (Tn.of (fun _=>False) hBV) (fun _ _ h=>h)
        have hrv:=hd8.rev
        rw [HNA.out.2.1] at hrv
        obtain ⟨s,W1,g1,g2'⟩:=hu8.entry (by have h1:=HT.out.1.2;have h2:=HJ49.out;unfold maxLen;omega) Tryz.underlying67 (Tryz.zeroValue33 V8) (by have h1:=HNA.out.1;have h2:=HNA.out.2.2.2;omega)
        rw [← HNA.out.1] at g1 g2'
        obtain ⟨W2,g3,g4,g5⟩:=g2' (.slice A6 lX m6)
        have ho9:=ho8.tn g5 (fun e=>HN.out.1 e.symm) (fun A m c l hu=>hu8.off hu)
        obtain ⟨V9,no9',g6,g7,g8,g9⟩:=ho9.store (by have h1:=HT.out.2.2;have h2:=HJ49.out;unfold maxLen;omega) (r:=nA) (by have h2:=HNA.out.2.2.2;omega) (A:=Ao) (m:=no9) (c:=co) (l:=lo) ⟨Rws.tn hK8.uns g5 (hu8.off hK8.uns),hK8.off⟩
        have HD9:=Lib.hid ((hd8.tnz g5 (fun b e=>by have e':b=mt:=e;rw [e'];exact ⟨hu8.no,HN.out.2.1⟩)).tnz g9 (fun b e=>by have e':b=mo:=e;rw [e'];exact ⟨ho9.no,HN.out.2.2⟩))
        have g4':=g4.tn g9 (fun e=>HN.out.1 e)
        obtain ⟨nt9,hnt9⟩ : ∃ nt9,nt9=nt + 1:=⟨_,rfl⟩
        rw [← HNA.out.2.1,← hnt9] at g4'
        obtain ⟨O9,hO9⟩ : ∃ O9,O9=Pl.Dc.laid O nA lo:=⟨_,rfl⟩
        obtain ⟨H9,hH9⟩ : ∃ H9,H9=Pl.Dc.laid H nA dX.cs:=⟨_,rfl⟩
        rw [← hO9] at g7
        have hhk:=HMK.out.hist H O HH.out.1
        rw [HLS.out,HN0.out,← HNA.out.1,← hO9,← hH9] at hhk
        have HH9:=Lib.hid hhk.1
        have HTELL0:=Lib.hid hhk.2
        have HT9:=Lib.hid (show (UptoM V9 k3 mt nt9 dX.now∧nt9≤j + 1 + 1)∧OpsM V9 k3 mo no9' O9∧no9'≤j + 1 from ⟨⟨g4',by have:=HT.out.1.2;omega⟩,g7,by have:=HT.out.2.2;omega⟩)
        have hb9:=g5.old hb8' (hu8.ne hb8')
        have HB9:=Lib.hid (And.intro (g9.old hb9 (ho9.ne hb9)) HB4.out.2)
        have ha9:=ha8.tn g5 (by have h:=ha8;unfold AnAt at h;exact hu8.ne h)
        have HAN9:=Lib.hid (And.intro (ha9.tn g9 (by have h:=ha9;unfold AnAt at h;exact ho9.ne h)) HAN4.out.2)
        have hr9:=hr8.tn g5 (fun b hF e=>by have e':b=mt:=e;rw [e'] at hF;have h1:=hF.1;have h2:=HLT.out.1;omega)
        have HR9:=Lib.hid (hr9.tn g9 (fun b hF e=>by have e':b=mo:=e;rw [e'] at hF;have h1:=hF.1;have h2:=HLT.out.2;omega))
        have HWH:=Lib.hid (fun h:wh7=true=>show tx7=dX.cs from by have h1:wh7=false:=HMK.out.whole;rw [h1] at h;cases h)
        have HREV1:=Lib.hid (fun h:q=3=>show 1≤rev7 from by have h1:=HNA.out.1;have h2:=HNA.out.2.2.1;omega)
        have HQR9:=Lib.hid hrv
        clear hBV hu8 ho8 hK8 hd8 ha8 hb8' hr8 hrv g2' g4 g5 ho9 g7 g8 g9 g4' hO9 hH9 hhk hnt9 hb9 ha9 hr9 hb8
        go_wp2_with fail
        refine HQR9.out.mono ?_
        rintro e w' ⟨rfl,hw⟩
        rw [hw];clear hw w'
        go_wp2_with fail
        refine HQR9.out.mono ?_
        rintro e w' ⟨rfl,hw⟩
        rw [hw];clear hw w'
        go_wp2_with fail
        clear g1 g3 g6 z7 z8 HQR9 HEQ HKU HB7 HC6 HBC HAN4 HR4 HB4 HT4 HW4 HD4 HQR HQF HFR HLS
        as_aux_lemma =>
         obtain ⟨c0,c1',c2,c3,c4,c5,c6⟩:=HAN9.out.1.cells
         have HKA:=Lib.hid (fun (wE:World) (hb:Below V9.heap.size V9 wE)=>And.intro (HAN9.out.1.then_ hb).cells.2.2.2.1 (HAN9.out.1.then_ hb).cells.2.2.2.2.1)
         have HTX:=Lib.hid (HD9.out.then_ (below_drawn (Below.refl _ _))).text
         have HEQT:=Lib.hid (fun (hw:wh7=true) (wE:World) (hb:Below V9.heap.size V9 wE) At ct base (ho:OwnC wE base (.slice At dX.cs.length ct) dX.cs)=>show Calls Tryz.prog 30 #[.slice A1 n1 c1,.slice At dX.cs.length ct] wE fun e w'=>e=.returned (.bool true)∧Below wE.heap.size wE w' from by
          have h:=equalC_any A1 At n1 c1 dX.cs.length ct tx7 dX.cs wE (HR9.out.text.1.then_ hb) ho.crs.2
          rw [decide_eq_true (HWH.out hw)] at h
          exact h)
         go_upto_region 28 with fail
         go_cut [174] (fun C wx=>C=.bool false∧Below V9.heap.size V9 wx)
         case first =>
          as_aux_lemma =>
           cases wh7 with
           | false =>
            go_wp2_with fail
            go_quiet (fail)
            go_wp2_with fail
            go_meet
            exact ⟨rfl,below_drewN _ _⟩
           | true =>
            go_wp2_with fail
            go_region_held3 (fun w'=>w'.cell? ⟨al,3,none⟩=some (.bool true)∧w'.cell? ⟨al,4,none⟩=some (.slice A1 n1 c1))
             (first | go_keep | (go_split_ands;exact HKA.out _ (below_drew hbT)) | (go_split_ands;exact HKA.out _ (below_then (below_drew hbT) hbE)))
             (first | (go_at_call 24;refine HTX.out.mono ?_;rintro e wT ⟨At,ct,rfl,hoT,hbT⟩) | (go_at_call 30;refine (HEQT.out (by first | trivial | rfl) _ (below_drew hbT) At ct _ hoT).mono ?_;rintro e wE ⟨rfl,hbE⟩))
            go_wp2_with fail
            go_meet
            exact ⟨rfl,below_then (below_drew hbT) hbE⟩
         case rest =>
          obtain ⟨rfl,hbc⟩:=hcut
          obtain ⟨VT,hVT⟩ : ∃ VT,VT=wc:=⟨_,rfl⟩
          rw [← hVT] at hbc ⊢
          clear hVT wc
          have hR:=HR9.out.tn (Tn.of (fun _=>False) hbc) (fun _ _ h=>h)
          obtain ⟨L9,hL9,hL8⟩:=hR.ops
          have hL8:L9.map OpV.op=op7:=hL8
          have hp1:p1=op7.length:=by rw [← hL9.1.len,← hL8,List.length_map]
          have HO9:=Lib.hid (And.intro hL9 (And.intro hL8 hp1))
          have HD9:=Lib.hid (HD9.out.then_ hbc)
          have HT9:=Lib.hid (And.intro (And.intro (HT9.out.1.1.then_ hbc) HT9.out.1.2) (And.intro (HT9.out.2.1.then_ hbc) HT9.out.2.2))
          obtain ⟨c0,c1',c2,c3,c4,c5,c6⟩:=(HAN9.out.1.then_ hbc).cells
          have hbq:VT.cell? ⟨bx,0,none⟩=some (.int .i64 q):=(HKC.out VT (below_old hbc HB9.out.1 (lt_of_block HB9.out.1))).1
          have hbr:VT.cell? ⟨bx,3,none⟩=some (.int .u64 (r:Int)):=(HKC.out VT (below_old hbc HB9.out.1 (lt_of_block HB9.out.1))).2.2.2.1
          have hle:=HXO.out.1.len
          have hle2:=HXO.out.1.le
          simp only at hle hle2
          have hrevN:dX.now≤1099511627776:=HD9.out.ok.p.rev
          have hfirst:(⟨q,x,y,r,p,Ar,nr,cr,l,raw,t⟩ : ActD).first (dX,(⟨0,rev7,wh7,tx7,op7,se7⟩ : Pl.An))=if q=5 then r else if q=3 then rev7 - 1 else rev7 - op7.length:=rfl
          have htop:=HXO.out.1.top
          rw [hfirst] at htop
          simp only at htop
          have htell:=HTELL0.out
          rw [hfirst] at htell
          obtain ⟨G,hG⟩ : ∃ G,G=rev7 - p1:=⟨_,rfl⟩
          have u5:IntKind.u64.wrap (p1:Int)=(p1:Int):=by rw [IntKind.wrap_u64];omega
          have u6:IntKind.u64.wrap ((rev7:Int) - (p1:Int))=(G:Int):=by rw [IntKind.wrap_u64];omega
          rw [← hp1] at htop hle
          have hpb:(p1:Int)≤1099511627776:=by omega
          have hne7:0<p1→op7≠[]:=fun h e=>by rw [hp1,e] at h;exact absurd h (Nat.lt_irrefl _)
          by_cases hq5:q=5
          ·rw [if_pos hq5] at htop htell
           have v5:(q == 5)=true:=by simpa using hq5
           have v3:(q == 3)=false:=by simp;omega
           have HTOP:=Lib.hid (fun (h:0<p1)=>show r + p1≤1099511627776 from by have:=htop (hne7 h);omega)
           have HTELL:=Lib.hid htell
           clear hbc hR hL9 hL8 hp1 hle hle2 hrevN hfirst htop htell hG hne7 hq5
           go_wp2_with fail
           as_aux_lemma =>
            go_loopw [196] (fun i wr=>InR VT p1 i wr) (fun i _=>p1 - (intOf i).toNat)
            case atStart=>exact ⟨0,rfl,Nat.zero_le _,Below.refl _ _⟩
            case round =>
             obtain ⟨i2,rfl,hi2,hbi⟩:=hrel
             by_cases hlt2:i2<p1
             ·have hP:=HO9.out.1.then_ hbi
              obtain ⟨g2,o2,hB1e,hg2,_,hc2⟩:=hP.at_ hlt2
              cases hB1e
              obtain ⟨a0,a1,a2,a3⟩:=hc2 i2 hlt2
              have hgd:=hP.getD_ hlt2
              have hopl:(op7.getD i2 default).l=(L9.getD i2 default).l:=by
               rw [← HO9.out.2.1,List.getD_eq_getElem?_getD,List.getElem?_map,List.getD_eq_getElem?_getD,List.getElem?_eq_getElem (by rw [HO9.out.1.1.len];exact hlt2)]
               rfl
              have htell:(op7.getD i2 default).l=O9 (r + i2 + 1):=HTELL.out i2 (by first | exact hlt2 | (show i2<op7.length;rw [← HO9.out.2.2];exact hlt2))
              rw [hopl] at htell
              obtain ⟨⟨xo,yo,Ao,no9,co,lo,bo⟩,hq9⟩ : ∃ q9,q9=L9.getD i2 default:=⟨_,rfl⟩
              rw [← hq9] at a0 a1 a2 a3 hgd htell
              simp only at a0 a1 a2 a3 hgd htell
              have HTL:=Lib.hid htell
              have y0:(0:Int)≤(i2:Int):=Int.natCast_nonneg _
              have y1:(i2:Int)<(p1:Int):=Int.ofNat_lt.2 hlt2
              have HMS2:=Lib.hid (show p1 - (i2 + 1)<p1 - i2 by omega)
              have hky:=HTOP.out (by omega)
              obtain ⟨KY,hKY⟩ : ∃ KY,KY=r + i2 + 1:=⟨_,rfl⟩
              obtain ⟨K0,hK0⟩ : ∃ K0,K0=r + i2:=⟨_,rfl⟩
              have u1:IntKind.u64.wrap (i2:Int)=(i2:Int):=by rw [IntKind.wrap_u64];omega
              have u2:IntKind.u64.wrap ((r:Int) + (i2:Int))=(K0:Int):=by rw [IntKind.wrap_u64];omega
              have u3:IntKind.u64.wrap ((K0:Int) + 1)=(KY:Int):=by rw [IntKind.wrap_u64];omega
              have hbx2:=below_box wr (.cells #[.int .u32 xo,.int .u64 yo,.slice Ao no9 co,.bool bo] 45)
              have hKb:KY≤1099511627776:=by omega
              have hlk0:=look_then HT9.out.2.1 hbi hbx2 KY hKb
              obtain ⟨Ak,mk,ck,hlk,huk⟩:=hlk0
              have hEQ:=equalU_any Ak Ao mk ck no9 co (O9 KY) lo (wr.alloc (.cells #[.int .u32 xo,.int .u64 yo,.slice Ao no9 co,.bool bo] 45)) huk (Rws.then_ hgd.1 hbx2)
              rw [decide_eq_true (show O9 KY=lo by rw [hKY];exact HTL.out.symm)] at hEQ
              have HEQ:=Lib.hid hEQ
              have HBI:=Lib.hid (below_then hbi hbx2)
              clear hP hc2 hgd hopl htell hq9 hKY hK0 hky hbx2 huk hEQ hbi
              go_wp2_with fail
              refine HEQ.out.mono ?_
              rintro e w9 ⟨rfl,hb9⟩
              have HB9':=Lib.hid (below_then HBI.out hb9)
              clear hb9 HEQ hlk u1 u2 u3
              go_wp2_with fail
              go_roundw
              case rel=>exact ⟨i2 + 1,by go_num,hlt2,HB9'.out⟩
              case measure=>simp [intOf];(have:=HMS2.out;omega)
             ·have HBI:=Lib.hid hbi
              clear hbi
              go_wp2_with fail
              go_roundw
              case rel =>
               exact ⟨j + 1,now2,k3,dX,H9,O9,nt9,no9',by go_num,rfl,⟨hjL,HJ49.out,HNW.out.1⟩,HD9.out.then_ HBI.out,HXT.out,HH9.out,⟨HT9.out.1.1.then_ HBI.out,HT9.out.1.2⟩,⟨HT9.out.2.1.then_ HBI.out,HT9.out.2.2⟩,HN.out⟩
              case measure=>simp [intOf];(have:=HMS.out;omega)
          ·by_cases hq3:q=3
           ·rw [if_neg hq5,if_pos hq3] at htop htell
            have v5:(q == 5)=false:=by simpa using hq5
            have v3:(q == 3)=true:=by simpa using hq3
            obtain ⟨G3,hG3⟩ : ∃ G3,G3=rev7 - 1:=⟨_,rfl⟩
            have hr1:=HREV1.out hq3
            have u7:IntKind.u64.wrap ((rev7:Int) - 1)=(G3:Int):=by rw [IntKind.wrap_u64];omega
            rw [← hG3] at htop htell
            have HTOP:=Lib.hid (fun (h:0<p1)=>show G3 + p1≤1099511627776 from by have:=htop (hne7 h);omega)
            have HTELL:=Lib.hid htell
            clear hbc hR hL9 hL8 hp1 hle hle2 hrevN hfirst htop htell hG hG3 hne7 hq5 hq3 hr1
            go_wp2_with fail
            as_aux_lemma =>
             go_loopw [196] (fun i wr=>InR VT p1 i wr) (fun i _=>p1 - (intOf i).toNat)
             case atStart=>exact ⟨0,rfl,Nat.zero_le _,Below.refl _ _⟩
             case round =>
              obtain ⟨i2,rfl,hi2,hbi⟩:=hrel
              by_cases hlt2:i2<p1
              ·have hP:=HO9.out.1.then_ hbi
               obtain ⟨g2,o2,hB1e,hg2,_,hc2⟩:=hP.at_ hlt2
               cases hB1e
               obtain ⟨a0,a1,a2,a3⟩:=hc2 i2 hlt2
               have hgd:=hP.getD_ hlt2
               have hopl:(op7.getD i2 default).l=(L9.getD i2 default).l:=by
                rw [← HO9.out.2.1,List.getD_eq_getElem?_getD,List.getElem?_map,List.getD_eq_getElem?_getD,List.getElem?_eq_getElem (by rw [HO9.out.1.1.len];exact hlt2)]
                rfl
               have htell:(op7.getD i2 default).l=O9 (G3 + i2 + 1):=HTELL.out i2 (by first | exact hlt2 | (show i2<op7.length;rw [← HO9.out.2.2];exact hlt2))
               rw [hopl] at htell
               obtain ⟨⟨xo,yo,Ao,no9,co,lo,bo⟩,hq9⟩ : ∃ q9,q9=L9.getD i2 default:=⟨_,rfl⟩
               rw [← hq9] at a0 a1 a2 a3 hgd htell
               simp only at a0 a1 a2 a3 hgd htell
               have HTL:=Lib.hid htell
               have y0:(0:Int)≤(i2:Int):=Int.natCast_nonneg _
               have y1:(i2:Int)<(p1:Int):=Int.ofNat_lt.2 hlt2
               have HMS2:=Lib.hid (show p1 - (i2 + 1)<p1 - i2 by omega)
               have hky:=HTOP.out (by omega)
               obtain ⟨KY,hKY⟩ : ∃ KY,KY=G3 + i2 + 1:=⟨_,rfl⟩
               obtain ⟨K0,hK0⟩ : ∃ K0,K0=G3 + i2:=⟨_,rfl⟩
               have u1:IntKind.u64.wrap (i2:Int)=(i2:Int):=by rw [IntKind.wrap_u64];omega
               have u2:IntKind.u64.wrap ((G3:Int) + (i2:Int))=(K0:Int):=by rw [IntKind.wrap_u64];omega
               have u3:IntKind.u64.wrap ((K0:Int) + 1)=(KY:Int):=by rw [IntKind.wrap_u64];omega
               have hbx2:=below_box wr (.cells #[.int .u32 xo,.int .u64 yo,.slice Ao no9 co,.bool bo] 45)
               have hKb:KY≤1099511627776:=by omega
               have hlk0:=look_then HT9.out.2.1 hbi hbx2 KY hKb
               obtain ⟨Ak,mk,ck,hlk,huk⟩:=hlk0
               have hEQ:=equalU_any Ak Ao mk ck no9 co (O9 KY) lo (wr.alloc (.cells #[.int .u32 xo,.int .u64 yo,.slice Ao no9 co,.bool bo] 45)) huk (Rws.then_ hgd.1 hbx2)
               rw [decide_eq_true (show O9 KY=lo by rw [hKY];exact HTL.out.symm)] at hEQ
               have HEQ:=Lib.hid hEQ
               have HBI:=Lib.hid (below_then hbi hbx2)
               clear hP hc2 hgd hopl htell hq9 hKY hK0 hky hbx2 huk hEQ hbi
               go_wp2_with fail
               refine HEQ.out.mono ?_
               rintro e w9 ⟨rfl,hb9⟩
               have HB9':=Lib.hid (below_then HBI.out hb9)
               clear hb9 HEQ hlk u1 u2 u3
               go_wp2_with fail
               go_roundw
               case rel=>exact ⟨i2 + 1,by go_num,hlt2,HB9'.out⟩
               case measure=>simp [intOf];(have:=HMS2.out;omega)
              ·have HBI:=Lib.hid hbi
               clear hbi
               go_wp2_with fail
               go_roundw
               case rel =>
                exact ⟨j + 1,now2,k3,dX,H9,O9,nt9,no9',by go_num,rfl,⟨hjL,HJ49.out,HNW.out.1⟩,HD9.out.then_ HBI.out,HXT.out,HH9.out,⟨HT9.out.1.1.then_ HBI.out,HT9.out.1.2⟩,⟨HT9.out.2.1.then_ HBI.out,HT9.out.2.2⟩,HN.out⟩
               case measure=>simp [intOf];(have:=HMS.out;omega)
           ·rw [if_neg hq5,if_neg hq3,← hG] at htop
            rw [if_neg hq5,if_neg hq3,← hp1,← hG] at htell
            have v5:(q == 5)=false:=by simpa using hq5
            have v3:(q == 3)=false:=by simpa using hq3
            have HTOP:=Lib.hid (fun (h:0<p1)=>show G + p1≤1099511627776 from by have:=htop (hne7 h);omega)
            have HTELL:=Lib.hid htell
            clear hbc hR hL9 hL8 hp1 hle hle2 hrevN hfirst htop htell hG hne7 hq5 hq3
            go_wp2_with fail
            as_aux_lemma =>
             go_loopw [196] (fun i wr=>InR VT p1 i wr) (fun i _=>p1 - (intOf i).toNat)
             case atStart=>exact ⟨0,rfl,Nat.zero_le _,Below.refl _ _⟩
             case round =>
              obtain ⟨i2,rfl,hi2,hbi⟩:=hrel
              by_cases hlt2:i2<p1
              ·have hP:=HO9.out.1.then_ hbi
               obtain ⟨g2,o2,hB1e,hg2,_,hc2⟩:=hP.at_ hlt2
               cases hB1e
               obtain ⟨a0,a1,a2,a3⟩:=hc2 i2 hlt2
               have hgd:=hP.getD_ hlt2
               have hopl:(op7.getD i2 default).l=(L9.getD i2 default).l:=by
                rw [← HO9.out.2.1,List.getD_eq_getElem?_getD,List.getElem?_map,List.getD_eq_getElem?_getD,List.getElem?_eq_getElem (by rw [HO9.out.1.1.len];exact hlt2)]
                rfl
               have htell:(op7.getD i2 default).l=O9 (G + i2 + 1):=HTELL.out i2 (by first | exact hlt2 | (show i2<op7.length;rw [← HO9.out.2.2];exact hlt2))
               rw [hopl] at htell
               obtain ⟨⟨xo,yo,Ao,no9,co,lo,bo⟩,hq9⟩ : ∃ q9,q9=L9.getD i2 default:=⟨_,rfl⟩
               rw [← hq9] at a0 a1 a2 a3 hgd htell
               simp only at a0 a1 a2 a3 hgd htell
               have HTL:=Lib.hid htell
               have y0:(0:Int)≤(i2:Int):=Int.natCast_nonneg _
               have y1:(i2:Int)<(p1:Int):=Int.ofNat_lt.2 hlt2
               have HMS2:=Lib.hid (show p1 - (i2 + 1)<p1 - i2 by omega)
               have hky:=HTOP.out (by omega)
               obtain ⟨KY,hKY⟩ : ∃ KY,KY=G + i2 + 1:=⟨_,rfl⟩
               obtain ⟨K0,hK0⟩ : ∃ K0,K0=G + i2:=⟨_,rfl⟩
               have u1:IntKind.u64.wrap (i2:Int)=(i2:Int):=by rw [IntKind.wrap_u64];omega
               have u2:IntKind.u64.wrap ((G:Int) + (i2:Int))=(K0:Int):=by rw [IntKind.wrap_u64];omega
               have u3:IntKind.u64.wrap ((K0:Int) + 1)=(KY:Int):=by rw [IntKind.wrap_u64];omega
               have hbx2:=below_box wr (.cells #[.int .u32 xo,.int .u64 yo,.slice Ao no9 co,.bool bo] 45)
               have hKb:KY≤1099511627776:=by omega
               have hlk0:=look_then HT9.out.2.1 hbi hbx2 KY hKb
               obtain ⟨Ak,mk,ck,hlk,huk⟩:=hlk0
               have hEQ:=equalU_any Ak Ao mk ck no9 co (O9 KY) lo (wr.alloc (.cells #[.int .u32 xo,.int .u64 yo,.slice Ao no9 co,.bool bo] 45)) huk (Rws.then_ hgd.1 hbx2)
               rw [decide_eq_true (show O9 KY=lo by rw [hKY];exact HTL.out.symm)] at hEQ
               have HEQ:=Lib.hid hEQ
               have HBI:=Lib.hid (below_then hbi hbx2)
               clear hP hc2 hgd hopl htell hq9 hKY hK0 hky hbx2 huk hEQ hbi
               go_wp2_with fail
               refine HEQ.out.mono ?_
               rintro e w9 ⟨rfl,hb9⟩
               have HB9':=Lib.hid (below_then HBI.out hb9)
               clear hb9 HEQ hlk u1 u2 u3
               go_wp2_with fail
               go_roundw
               case rel=>exact ⟨i2 + 1,by go_num,hlt2,HB9'.out⟩
               case measure=>simp [intOf];(have:=HMS2.out;omega)
              ·have HBI:=Lib.hid hbi
               clear hbi
               go_wp2_with fail
               go_roundw
               case rel =>
                exact ⟨j + 1,now2,k3,dX,H9,O9,nt9,no9',by go_num,rfl,⟨hjL,HJ49.out,HNW.out.1⟩,HD9.out.then_ HBI.out,HXT.out,HH9.out,⟨HT9.out.1.1.then_ HBI.out,HT9.out.1.2⟩,⟨HT9.out.2.1.then_ HBI.out,HT9.out.2.2⟩,HN.out⟩
               case measure=>simp [intOf];(have:=HMS.out;omega)
    --<ERR
    ·as_aux_lemma =>
      have z3:(e7 != 0)=true:=by simpa using he
      have z4:decide (e7≠0)=true:=decide_eq_true he
      obtain ⟨hfl,hkp⟩:=HX.out.2.1 he
      have HXT:=Lib.hid HX.out.1
      unfold Pl.fails at hfl
      injection hfl with g1 g2 g3 g4 g5 g6
      subst g2 g3 g4 g5 g6
      clear g1 he HX
      have hp1:p1=0:=by
       obtain ⟨L9,hL9,hL8⟩:=HR3.out.ops
       rw [← hL9.1.len]
       have:=congrArg List.length hL8
       rw [List.length_map] at this
       exact this
      subst hp1
      have HK:=Lib.hid hkp
      clear hkp
      go_wp2_with fail
      have hbA:=below_box V3 (.cells #[.int .i64 e7,.int .u32 0,.int .u64 0,.bool false,.slice A1 n1 c1,.slice B1 0 q1,.slice C1 r1 s1] 37)
      have hAN:AnAt (V3.alloc (.cells #[.int .i64 e7,.int .u32 0,.int .u64 0,.bool false,.slice A1 n1 c1,.slice B1 0 q1,.slice C1 r1 s1] 37)) V3.heap.size e7 0 false A1 n1 c1 B1 0 q1 C1 r1 s1:=heap_alloc_new V3 _
      obtain ⟨al,hal⟩ : ∃ al,al=V3.heap.size:=⟨_,rfl⟩
      rw [← hal] at hAN ⊢
      have hkal:k3 al=0:=by rw [hal];exact box_zero k3 _ HD3.out.lt (Nat.le_refl _)
      have halw:w.heap.size≤al:=by rw [hal];exact HD3.out.below.size
      generalize V3.alloc (.cells #[.int .i64 e7,.int .u32 0,.int .u64 0,.bool false,.slice A1 n1 c1,.slice B1 0 q1,.slice C1 r1 s1] 37)=V4 at hbA hAN ⊢
      have HD4:=Lib.hid (HD3.out.then_ hbA)
      have HT4:=Lib.hid (And.intro (HT3.out.1.then_ hbA) (HT3.out.2.then_ hbA))
      have HW4:=Lib.hid (HW3.out.then_ hbA)
      have HB4:=Lib.hid (And.intro (below_old hbA HB3.out.1 (lt_of_block HB3.out.1)) HB3.out.2)
      have HAN4:=Lib.hid (And.intro hAN (And.intro hkal halw))
      have HR4:=Lib.hid (HR3.out.tn (Tn.of (fun _=>False) hbA) (fun _ _ h=>h))
      clear hbA hAN hal hkal halw HD3 HT3 HW3 HB3 HR3
      have hrv:=HD4.out.at_.choose_spec.2.rev
      rw [HK.out.now] at hrv
      refine hrv.mono ?_
      rintro e w' ⟨rfl,hw⟩
      rw [hw];clear hw w' hrv
      go_wp2_with fail
      refine HD4.out.text.mono ?_
      rintro e V5 ⟨At,ct,rfl,hot,hb5⟩
      have HD5:=Lib.hid (HD4.out.then_ hb5)
      have HT5:=Lib.hid (And.intro (HT4.out.1.then_ hb5) (HT4.out.2.then_ hb5))
      have hA5:=HAN4.out.1.then_ hb5
      have hEQ:=equalC_any At Aw dX.cs.length ct nw cw dX.cs d.cs V5 hot.crs.2 (HW4.out.then_ hb5).crs
      rw [decide_eq_true HK.out.cs] at hEQ
      have HEQ:=Lib.hid hEQ
      have HA5:=Lib.hid hA5
      clear hot hb5 hEQ hA5 HD4 HT4 HW4
      go_wp2_with fail
      refine HEQ.out.mono ?_
      rintro e V6 ⟨rfl,hb6⟩
      obtain ⟨c0,c1',c2,c3,c4,c5,c6⟩:=(HA5.out.then_ hb6).cells
      have HD6:=Lib.hid (HD5.out.then_ hb6)
      have HT6:=Lib.hid (And.intro (HT5.out.1.then_ hb6) (HT5.out.2.then_ hb6))
      clear hb6 HD5 HT5 HEQ
      go_wp2_with fail
      go_roundw
      case rel =>
       exact ⟨j + 1,now2,k3,dX,H,O,nt,no,by go_num,rfl,⟨hjL,HJ49.out,HNW.out.1⟩,HD6.out,HXT.out,(HK.out.hist H O HH.out.1).1,⟨by rw [HK.out.now];exact HT6.out.1,by have:=HT.out.1.2;omega⟩,⟨HT6.out.2,by have:=HT.out.2.2;omega⟩,HN.out⟩
      case measure=>simp [intOf];(have:=HMS.out;omega)
    --ERR>
  ·have hjn:j=n:=by omega
   subst hjn
   go_wp2_with fail
   refine (awake_any wr).mono ?_
   rintro e w' ⟨rfl,hb⟩
   go_wp2_with fail
   rw [HR.out]
   exact ⟨rfl,HD.out.below.trans (hb.mono HD.out.below.size)⟩
end docOne
end Go.Proofs.YtlgdcelgkiipaaaGreat
