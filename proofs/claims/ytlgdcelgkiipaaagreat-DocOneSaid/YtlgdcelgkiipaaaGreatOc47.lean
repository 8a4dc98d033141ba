/-
  An act's row; what an act does to a document. Conditions: the act's numbers are what their types can be.
-/
import Derived.Test.YtlgdcelgkiipaaaGreatOc44
import Derived.Test.YtlgdcelgkiipaaaGreatOc45
import Derived.Test.YtlgdcelgkiipaaaGreatOc46
set_option maxRecDepth 100000
set_option linter.unusedVariables false
namespace Go.Proofs.YtlgdcelgkiipaaaGreat
open Go.RowKit
open Pl (Un)
def ActD.val (a:ActD):Value:=.agg #[.int .i64 a.k,.int .u32 a.x,.int .u64 a.y,.int .u64 (a.r:Int),.int .i64 a.p,.slice a.A a.n a.c,.bool a.raw,.int .u8 (a.t:Int)]
def Pl.rowJ (x y:Int) (raw:Bool) (L:List Un) (j:Nat):List Un:=if raw=true then L else (L.take j).map (Pl.signed x y) ++ L.drop j
theorem rowJ_len (x y:Int) (raw:Bool) (L:List Un) (j:Nat):(Pl.rowJ x y raw L j).length=L.length:=by
 unfold Pl.rowJ
 split
 ·rfl
 ·rw [List.length_append,List.length_map,List.length_take,List.length_drop];omega
theorem rowJ_zero (x y:Int) (raw:Bool) (L:List Un):Pl.rowJ x y raw L 0=L:=by
 unfold Pl.rowJ
 split
 ·rfl
 ·simp
theorem rowJ_succ (x y:Int) (L:List Un) {j:Nat} (h:j<L.length):Pl.rowJ x y false L (j + 1)=(Pl.rowJ x y false L j).set j (Pl.signed x y (L.getD j default)):=by
 unfold Pl.rowJ
 rw [if_neg (by decide),if_neg (by decide)]
 have hl:((L.take j).map (Pl.signed x y)).length=j:=by rw [List.length_map,List.length_take];omega
 rw [List.set_append_right _ _ (by rw [hl];exact Nat.le_refl _),hl,Nat.sub_self,List.drop_eq_getElem_cons h,List.set_cons_zero,List.take_add_one,List.getElem?_eq_getElem h,List.map_append,List.append_assoc,List.getD_eq_getElem?_getD,List.getElem?_eq_getElem h]
 rfl
theorem rowJ_at (x y:Int) (L:List Un) {j:Nat} (h:j<L.length):(Pl.rowJ x y false L j)[j]?=some (L.getD j default):=by
 unfold Pl.rowJ
 rw [if_neg (by decide)]
 have hl:((L.take j).map (Pl.signed x y)).length=j:=by rw [List.length_map,List.length_take];omega
 rw [List.getElem?_append_right (by rw [hl];exact Nat.le_refl _),hl,Nat.sub_self,List.getElem?_drop,Nat.add_zero,List.getElem?_eq_getElem h,List.getD_eq_getElem?_getD,List.getElem?_eq_getElem h]
 rfl
def RwL (w W1:World) (A:Option Addr) (N c:Nat) (x y:Int) (raw:Bool) (L:List Un) (bx:Obj) (i:Value) (wr:World):Prop :=
 ∃ j:Nat,i=.int .i64 (j:Int)∧j≤N∧OwnU wr (w.heap.size + 1) (.slice A N c) (Pl.rowJ x y raw L j)∧wr.heap[w.heap.size]?=some bx∧Below w.heap.size w wr
set_option maxHeartbeats 2000000 in
theorem actrow_any (a:ActD) (w:World) (hU:Uns w w.heap.size a.A a.n a.c a.l):Calls Tryz.prog 47 #[a.val] w (RetU w a.row):=by
 obtain ⟨k,x,y,r,p,A,n,c,l,raw,t⟩:=a
 unfold ActD.val
 simp only at hU ⊢
 obtain ⟨K,hK⟩ : ∃ K,K=min n 300:=⟨_,rfl⟩
 have hle:=hU.le
 have hcap:=hU.cap
 unfold maxLen at hcap
 have hmin:(if (300:Int)<(n:Int) then (300:Int) else (n:Int))=(K:Int):=by split <;> omega
 have hmin2:min (n:Int) 300=(K:Int):=by omega
 have sM:=slice_toU A n c K (by omega)
 obtain ⟨L,hL⟩ : ∃ L,L=l.take 300:=⟨_,rfl⟩
 have hLK:L=l.take K:=by
  rw [hL]
  have:=hU.len
  rcases Nat.lt_or_ge n 300 with h | h
  ·rw [List.take_of_length_le (by omega),List.take_of_length_le (by omega)]
  ·rw [show K=300 by omega]
 have hLl:L.length=K:=by rw [hLK,List.length_take,hU.len];omega
 have hb1:Below w.heap.size w ((w.alloc (.cells #[.int .i64 k,.int .u32 x,.int .u64 y,.int .u64 (r:Int),.int .i64 p,.slice A n c,.bool raw,.int .u8 (t:Int)] 31)).alloc (.cells #[] 47)):=below_alloc (below_box _ _) _
 have HB:=Lib.hid (show Uns ((w.alloc (.cells #[.int .i64 k,.int .u32 x,.int .u64 y,.int .u64 (r:Int),.int .i64 p,.slice A n c,.bool raw,.int .u8 (t:Int)] 31)).alloc (.cells #[] 47)) w.heap.size A K c L by rw [hLK];exact (hU.upto encU_len (by omega)).below hb1 (Nat.le_refl _))
 have HV:=Lib.hid (show OwnU ((w.alloc (.cells #[.int .i64 k,.int .u32 x,.int .u64 y,.int .u64 (r:Int),.int .i64 p,.slice A n c,.bool raw,.int .u8 (t:Int)] 31)).alloc (.cells #[] 47)) (w.heap.size + 1) (.slice (some ⟨w.heap.size + 1,0,none⟩) 0 0) [] by have:=units_lit (w.alloc (.cells #[.int .i64 k,.int .u32 x,.int .u64 y,.int .u64 (r:Int),.int .i64 p,.slice A n c,.bool raw,.int .u8 (t:Int)] 31)) [] (by simp);rw [show (w.alloc (.cells #[.int .i64 k,.int .u32 x,.int .u64 y,.int .u64 (r:Int),.int .i64 p,.slice A n c,.bool raw,.int .u8 (t:Int)] 31)).heap.size=w.heap.size + 1 by simp] at this;exact this)
 have HBB:=Lib.hid hb1
 have HO:=Lib.hid (show ((w.alloc (.cells #[.int .i64 k,.int .u32 x,.int .u64 y,.int .u64 (r:Int),.int .i64 p,.slice A n c,.bool raw,.int .u8 (t:Int)] 31)).alloc (.cells #[] 47)).heap[w.heap.size]?=some (.cells #[.int .i64 k,.int .u32 x,.int .u64 y,.int .u64 (r:Int),.int .i64 p,.slice A n c,.bool raw,.int .u8 (t:Int)] 31 (0,0)) from below_old (below_box _ _) (heap_alloc_new w _) (by simp))
 have HK:=Lib.hid (show K≤300∧K≤c by omega)
 have HLL:=Lib.hid hLl
 have HLE:=Lib.hid hL
 clear hU hK hL hLK hb1
 go_enter Tryz.func47,Tryz.ntmps47
 go_wp2_with (at_builtin;refine wpList_append_rws encU_len encU_one Tryz.underlying29 infoUn (by decide) (by decide) ((w.alloc (.cells #[.int .i64 k,.int .u32 x,.int .u64 y,.int .u64 (r:Int),.int .i64 p,.slice A n c,.bool raw,.int .u8 (t:Int)] 31)).alloc (.cells #[] 47)) rfl (.tmp 5) (.tmp 12) rfl (w.heap.size + 1) _ _ _ [] (by rfl) HV.out w.heap.size _ _ _ L (by rfl) HB.out (by unfold maxLen;have:=HK.out;omega) (by have:=HK.out;omega) (by simp) ?_)
 intro A2 c2 w2 hV2 hg2 hx2
 have hg3:=grown_tn hg2
 have hbx:=hg3.old HO.out (fun e=>by
  have e2:=Option.some.inj (show some (w.heap.size + 1)=some w.heap.size from e)
  omega)
 have hz1:(w.alloc (.cells #[.int .i64 k,.int .u32 x,.int .u64 y,.int .u64 (r:Int),.int .i64 p,.slice A n c,.bool raw,.int .u8 (t:Int)] 31)).heap.size=w.heap.size + 1:=by simp
 have hbl:=below_box (w.alloc (.cells #[.int .i64 k,.int .u32 x,.int .u64 y,.int .u64 (r:Int),.int .i64 p,.slice A n c,.bool raw,.int .u8 (t:Int)] 31)) (.cells #[] 47)
 rw [hz1] at hbl
 have hb2:Below w.heap.size w w2:=(below_box w (.cells #[.int .i64 k,.int .u32 x,.int .u64 y,.int .u64 (r:Int),.int .i64 p,.slice A n c,.bool raw,.int .u8 (t:Int)] 31)).trans ((OwnR.grownBelow HV.out hg2 hbl (by simp)).mono (Nat.le_succ _))
 clear hx2 hg2 hg3 hz1 hbl
 have hV2:OwnU w2 (w.heap.size + 1) (.slice A2 K c2) L:=by simpa using hV2
 have HV2:=Lib.hid hV2
 have HX2:=Lib.hid (And.intro hbx hb2)
 have hk300:=HK.out.1
 clear hV2 hbx hb2 HV HB HBB HO
 clear hmin hmin2 sM
 go_wp2_with fail
 try simp only [Nat.zero_add]
 go_loopw [4,16] (fun v i wr=>RwL w w A2 K c2 x y raw L (.cells #[.int .i64 k,.int .u32 x,.int .u64 y,.int .u64 (r:Int),.int .i64 p,.slice A n c,.bool raw,.int .u8 (t:Int)] 31 (0,0)) i wr) (fun _ i _=>K - (intOf i).toNat)
 case atStart=>exact ⟨0,rfl,Nat.zero_le _,by rw [rowJ_zero];exact HV2.out,HX2.out.1,HX2.out.2⟩
 case round =>
  obtain ⟨j,rfl,hj,ho,hbx,hb⟩:=hrel
  have HOJ:=Lib.hid ho
  have HXJ:=Lib.hid (And.intro hbx hb)
  have b0:=cell0 (r:=[.int .u32 x,.int .u64 y,.int .u64 (r:Int),.int .i64 p,.slice A n c,.bool raw,.int .u8 (t:Int)]) hbx
  have b1:=cell1 (r:=[.int .u64 y,.int .u64 (r:Int),.int .i64 p,.slice A n c,.bool raw,.int .u8 (t:Int)]) hbx
  have b2:wr.cell? ⟨w.heap.size,2,none⟩=some (.int .u64 y):=by rw [cell_of_row wr w.heap.size 2 _ _ _ hbx];rfl
  have b6:wr.cell? ⟨w.heap.size,6,none⟩=some (.bool raw):=by rw [cell_of_row wr w.heap.size 6 _ _ _ hbx];rfl
  clear ho hbx hb b0
  by_cases hlt:j<K
  ·have z0:(0:Int)≤(j:Int):=Int.natCast_nonneg _
   have z1:(j:Int)<(K:Int):=Int.ofNat_lt.2 hlt
   have HMS:=Lib.hid (show K - (j + 1)<K - j by omega)
   cases raw with
   | true =>
    go_wp2_with fail
    go_roundw
    case rel=>exact ⟨j + 1,by go_num,hlt,HOJ.out,HXJ.out.1,HXJ.out.2⟩
    case measure=>simp [intOf];(have:=HMS.out;omega)
   | false =>
    have hjL:j<L.length:=by rw [HLL.out];exact hlt
    go_wp2_with fail
    refine (id13_any x y wr).mono ?_
    rintro e w3 ⟨rfl,hbi⟩
    have ho3:=OwnR.then_ HOJ.out hbi
    obtain ⟨g,eg,hg1,hg2⟩:=OwnR.pos_ ho3 (show 0<K by omega)
    subst eg
    have hat:=rowJ_at x y L hjL
    have hset:=rowJ_succ x y L hjL
    obtain ⟨⟨uk,up,uc,ux,uy⟩,hu⟩ : ∃ u,u=L.getD j default:=⟨_,rfl⟩
    rw [← hu] at hat hset
    have HS:=Lib.hid (And.intro hat hset)
    have hlen:j<(Pl.rowJ x y false L j).length:=by rw [rowJ_len];exact hjL
    have hcl:=OwnU.cells ho3 hlt
    have HO3:=Lib.hid ho3
    have HB3:=Lib.hid (And.intro hg1 (below_old hbi HXJ.out.1 (lt_of_block HXJ.out.1)))
    have HBB3:=Lib.hid (HXJ.out.2.trans (hbi.mono HXJ.out.2.size))
    obtain ⟨_,_,_,c3,c4,fz⟩:=hcl
    have hne:w.heap.size≠g:=by omega
    clear hat hset hu ho3 hg1 hg2
    go_wp2_with fail
    go_roundw
    case rel =>
     have h1:=OwnR.set_ encU_len (g:=g) HO3.out j 3 (.int .u32 x) (by decide) ⟨uk,up,uc,ux,uy⟩ ⟨uk,up,uc,x,uy⟩ HS.out.1 rfl |>.1
     have h2:=OwnR.set_ encU_len (g:=g) h1 j 4 (.int .u64 y) (by decide) ⟨uk,up,uc,x,uy⟩ ⟨uk,up,uc,x,y⟩ (by rw [List.getElem?_set_self hlen]) rfl |>.1
     rw [List.set_set] at h2
     have ht:Tn (fun b=>b=g) w3 ((w3.setCell ⟨g,j * 5 + 3,none⟩ (.int .u32 x)).setCell ⟨g,j * 5 + 4,none⟩ (.int .u64 y)):=((Tn.refl (fun b=>b=g) w3).set_ (p:=⟨g,j * 5 + 3,none⟩) (Or.inr rfl) _).set_ (p:=⟨g,j * 5 + 4,none⟩) (Or.inr rfl) _
     refine ⟨j + 1,by go_num,hlt,?_,ht.old HB3.out.2 hne,ht.below HBB3.out HBB3.out.size fun b e=>by have:=HB3.out.1;omega⟩
     rw [HS.out.2]
     exact h2
    case measure=>simp [intOf];(have:=HMS.out;omega)
  ·have hjK:j=K:=by omega
   subst hjK
   have he:Pl.rowJ x y raw L j=(⟨k,x,y,r,p,A,n,c,l,raw,t⟩ : ActD).row:=by
    unfold Pl.rowJ ActD.row
    rw [← HLE.out,← HLL.out,List.take_length,List.drop_length,List.append_nil]
   rw [he] at HOJ
   have hl:=OwnU.len HOJ.out
   go_wp2_with fail
   go_ret
   exact ⟨A2,c2,by rw [← hl];rfl,OwnR.lower HOJ.out (Nat.le_succ _) |> fun h=>by rw [← hl];exact h,HXJ.out.2⟩
theorem DocP.end_ {w W0 W2:World} {D m r m':Nat} {k k':Nat→Nat} {dd:Pl.Dc × Pl.An} {A:Option Addr} {n c:Nat} {A2:Option Addr} {n2 c2:Nat} {A3:Option Addr} {n3 c3:Nat} (hk:∀ b,k b≠0→b<w.heap.size) (hb:Below w.heap.size w W0) (h0:w.heap.size≤r) (h1:r<W0.heap.size)
  (hd:DocAt W2 D k' dd.1 m') (hm:m'≤m + 256) (hv:Mv k W0 k' W2) (hA:AnR W2 (fun b=>W0.heap.size≤b∧k' b=0) A n c A2 n2 c2 A3 n3 c3 dd.2) (v0 v1 v2 v3 v4 v5 v6:Value) :
  DocP w D k m dd (.returned (aval dd.2.e (dd.2.rev:Int) dd.2.whole A n c A2 n2 c2 A3 n3 c3)) (seven W2 r v0 v1 v2 v3 v4 v5 v6):=by
 obtain ⟨⟨pa,tx,ls,mk,hd⟩,hok⟩:=hd
 exact (DocR.end_ hk hb h0 h1 hd hm hv hA v0 v1 v2 v3 v4 v5 v6).p hok
section
variable {w:World} {D m:Nat} {k:Nat→Nat} {d:Pl.Dc} {x y p now:Int} {r n c t:Nat} {A:Option Addr} {raw:Bool}
set_option maxHeartbeats 2000000 in
theorem does0_any (h:DocAt w D k d m) (hc:0≤x∧x<4294967296) (hr:r≤18446744073709551615) (h0:0≤now) (hnow:now≤1099511627776) (ht:d.t + 1<18446744073709551616) :
  Calls Tryz.prog 10 #[.pointer (some ⟨D,0,none⟩),.agg #[.int .i64 0,.int .u32 x,.int .u64 y,.int .u64 (r:Int),.int .i64 p,.slice A n c,.bool raw,.int .u8 (t:Int)],.int .u64 now] w (DocP w D k m (d.open_ x r now)):=by
 obtain ⟨X,hX⟩ : ∃ X,X=d.open_ x r now:=⟨_,rfl⟩
 rw [← hX]
 obtain ⟨R,hR⟩ : ∃ R,R=DocP w D k m X:=⟨_,rfl⟩
 rw [← hR]
 have HR:=Lib.hid hR
 have HX:=Lib.hid hX
 have HH:=Lib.hid h
 clear h hR hX
 go_enter Tryz.func10,Tryz.ntmps10
 go_wp2_with fail
 obtain ⟨os,hos⟩ : ∃ os:List Obj,os=[.cells #[.int .i64 0,.int .u32 x,.int .u64 y,.int .u64 (r:Int),.int .i64 p,.slice A n c,.bool raw,.int .u8 (t:Int)] 31,.cells #[.int .i64 0,.int .u32 0,.int .u64 0,.bool false,.slice none 0 0,.slice none 0 0,.slice none 0 0] 37]:=⟨_,rfl⟩
 have hW:allocs w os=(w.alloc (.cells #[.int .i64 0,.int .u32 x,.int .u64 y,.int .u64 (r:Int),.int .i64 p,.slice A n c,.bool raw,.int .u8 (t:Int)] 31)).alloc (.cells #[.int .i64 0,.int .u32 0,.int .u64 0,.bool false,.slice none 0 0,.slice none 0 0,.slice none 0 0] 37):=by rw [hos];rfl
 rw [← hW]
 have hB:=allocs_below os w
 have e0:=allocs_at os w 0 _ (by rw [hos];rfl)
 have e1:=allocs_at os w 1 _ (by rw [hos];rfl)
 clear hW hos
 generalize allocs w os=W0 at hB e0 e1 ⊢
 clear os
 have hlt:=HH.out.lt
 have HE:=Lib.hid (And.intro hB (And.intro hlt (show AnAt W0 (w.heap.size + 1) 0 0 false none 0 0 none 0 0 none 0 0 from e1)))
 clear hB e0 e1 hlt
 have hC:=open_any (HH.out.then_ HE.out.1) hc r hr now h0 hnow ht
 rw [← HX.out] at hC
 refine hC.mono ?_
 rintro e w2 ⟨k2,m2,v,rfl,hd,hm2,hmv,A1,n1,c1,B1,p1,q1,C1,r1,s1,rfl,hr⟩
 clear hC
 have hr4:w.heap.size + 1<W0.heap.size:=HE.out.2.2.lt
 have h4:AnAt w2 (w.heap.size + 1) 0 0 false none 0 0 none 0 0 none 0 0:=box_mv hmv (HE.out.2.2) HE.out.2.1 (by omega)
 have HD:=Lib.hid (And.intro hd (And.intro hm2 (And.intro hmv hr)))
 have H4:=Lib.hid h4
 have HR4:=Lib.hid hr4
 obtain ⟨d0,d1,d2,d3,d4,d5,d6⟩:=h4.cells
 have g7:=h4.frozen
 clear hd hm2 hmv hr h4 hr4 HX HH
 generalize X=Y at HD HR ⊢
 obtain ⟨dq,⟨e7,rev7,wh7,tx7,op7,se7⟩⟩:=Y
 simp only at HD
 unfold aval
 simp only
 go_wp2_with fail
 refine bodyPost_ret (results_an rfl (by rfl) (H4.out.sets _ _ _ A1 n1 c1 B1 p1 q1 C1 r1 s1)) rfl ?_
 rw [HR.out]
 exact DocP.end_ (dd:=(dq,⟨e7,rev7,wh7,tx7,op7,se7⟩)) HE.out.2.1 HE.out.1 (by omega) HR4.out HD.out.1 HD.out.2.1 HD.out.2.2.1 HD.out.2.2.2 _ _ _ _ _ _ _
set_option maxHeartbeats 2000000 in
theorem does1_any (h:DocAt w D k d m) (hc:0≤x∧x<4294967296) (h0:0≤now) (hnow:now≤1099511627776) (ht:d.t + 1<18446744073709551616) :
  Calls Tryz.prog 10 #[.pointer (some ⟨D,0,none⟩),.agg #[.int .i64 1,.int .u32 x,.int .u64 y,.int .u64 (r:Int),.int .i64 p,.slice A n c,.bool raw,.int .u8 (t:Int)],.int .u64 now] w (DocP w D k m (d.leave_ x now)):=by
 obtain ⟨X,hX⟩ : ∃ X,X=d.leave_ x now:=⟨_,rfl⟩
 rw [← hX]
 obtain ⟨R,hR⟩ : ∃ R,R=DocP w D k m X:=⟨_,rfl⟩
 rw [← hR]
 have HR:=Lib.hid hR
 have HX:=Lib.hid hX
 have HH:=Lib.hid h
 clear h hR hX
 go_enter Tryz.func10,Tryz.ntmps10
 go_wp2_with fail
 obtain ⟨os,hos⟩ : ∃ os:List Obj,os=[.cells #[.int .i64 1,.int .u32 x,.int .u64 y,.int .u64 (r:Int),.int .i64 p,.slice A n c,.bool raw,.int .u8 (t:Int)] 31,.cells #[.int .i64 0,.int .u32 0,.int .u64 0,.bool false,.slice none 0 0,.slice none 0 0,.slice none 0 0] 37]:=⟨_,rfl⟩
 have hW:allocs w os=(w.alloc (.cells #[.int .i64 1,.int .u32 x,.int .u64 y,.int .u64 (r:Int),.int .i64 p,.slice A n c,.bool raw,.int .u8 (t:Int)] 31)).alloc (.cells #[.int .i64 0,.int .u32 0,.int .u64 0,.bool false,.slice none 0 0,.slice none 0 0,.slice none 0 0] 37):=by rw [hos];rfl
 rw [← hW]
 have hB:=allocs_below os w
 have e0:=allocs_at os w 0 _ (by rw [hos];rfl)
 have e1:=allocs_at os w 1 _ (by rw [hos];rfl)
 clear hW hos
 generalize allocs w os=W0 at hB e0 e1 ⊢
 clear os
 have hlt:=HH.out.lt
 have HE:=Lib.hid (And.intro hB (And.intro hlt (show AnAt W0 (w.heap.size + 1) 0 0 false none 0 0 none 0 0 none 0 0 from e1)))
 clear hB e0 e1 hlt
 have hC:=leave_any (HH.out.then_ HE.out.1) hc now h0 hnow ht
 rw [← HX.out] at hC
 refine hC.mono ?_
 rintro e w2 ⟨k2,m2,v,rfl,hd,hm2,hmv,A1,n1,c1,B1,p1,q1,C1,r1,s1,rfl,hr⟩
 clear hC
 have hr4:w.heap.size + 1<W0.heap.size:=HE.out.2.2.lt
 have h4:AnAt w2 (w.heap.size + 1) 0 0 false none 0 0 none 0 0 none 0 0:=box_mv hmv (HE.out.2.2) HE.out.2.1 (by omega)
 have HD:=Lib.hid (And.intro hd (And.intro hm2 (And.intro hmv hr)))
 have H4:=Lib.hid h4
 have HR4:=Lib.hid hr4
 obtain ⟨d0,d1,d2,d3,d4,d5,d6⟩:=h4.cells
 have g7:=h4.frozen
 clear hd hm2 hmv hr h4 hr4 HX HH
 generalize X=Y at HD HR ⊢
 obtain ⟨dq,⟨e7,rev7,wh7,tx7,op7,se7⟩⟩:=Y
 simp only at HD
 unfold aval
 simp only
 go_wp2_with fail
 refine bodyPost_ret (results_an rfl (by rfl) (H4.out.sets _ _ _ A1 n1 c1 B1 p1 q1 C1 r1 s1)) rfl ?_
 rw [HR.out]
 exact DocP.end_ (dd:=(dq,⟨e7,rev7,wh7,tx7,op7,se7⟩)) HE.out.2.1 HE.out.1 (by omega) HR4.out HD.out.1 HD.out.2.1 HD.out.2.2.1 HD.out.2.2.2 _ _ _ _ _ _ _
set_option maxHeartbeats 2000000 in
theorem does4_any (h:DocAt w D k d m) (hp:p≤9223372036854775807) (h0:0≤now) (hnow:now≤1099511627776) (ht:d.t + 1<18446744073709551616) :
  Calls Tryz.prog 10 #[.pointer (some ⟨D,0,none⟩),.agg #[.int .i64 4,.int .u32 x,.int .u64 y,.int .u64 (r:Int),.int .i64 p,.slice A n c,.bool raw,.int .u8 (t:Int)],.int .u64 now] w (DocP w D k m (d.snap p now)):=by
 obtain ⟨X,hX⟩ : ∃ X,X=d.snap p now:=⟨_,rfl⟩
 rw [← hX]
 obtain ⟨R,hR⟩ : ∃ R,R=DocP w D k m X:=⟨_,rfl⟩
 rw [← hR]
 have HR:=Lib.hid hR
 have HX:=Lib.hid hX
 have HH:=Lib.hid h
 clear h hR hX
 go_enter Tryz.func10,Tryz.ntmps10
 go_wp2_with fail
 obtain ⟨os,hos⟩ : ∃ os:List Obj,os=[.cells #[.int .i64 4,.int .u32 x,.int .u64 y,.int .u64 (r:Int),.int .i64 p,.slice A n c,.bool raw,.int .u8 (t:Int)] 31,.cells #[.int .i64 0,.int .u32 0,.int .u64 0,.bool false,.slice none 0 0,.slice none 0 0,.slice none 0 0] 37]:=⟨_,rfl⟩
 have hW:allocs w os=(w.alloc (.cells #[.int .i64 4,.int .u32 x,.int .u64 y,.int .u64 (r:Int),.int .i64 p,.slice A n c,.bool raw,.int .u8 (t:Int)] 31)).alloc (.cells #[.int .i64 0,.int .u32 0,.int .u64 0,.bool false,.slice none 0 0,.slice none 0 0,.slice none 0 0] 37):=by rw [hos];rfl
 rw [← hW]
 have hB:=allocs_below os w
 have e0:=allocs_at os w 0 _ (by rw [hos];rfl)
 have e1:=allocs_at os w 1 _ (by rw [hos];rfl)
 clear hW hos
 generalize allocs w os=W0 at hB e0 e1 ⊢
 clear os
 have hlt:=HH.out.lt
 have HE:=Lib.hid (And.intro hB (And.intro hlt (show AnAt W0 (w.heap.size + 1) 0 0 false none 0 0 none 0 0 none 0 0 from e1)))
 clear hB e0 e1 hlt
 have hC:=snap_any (HH.out.then_ HE.out.1) p hp now h0 hnow ht
 rw [← HX.out] at hC
 refine hC.mono ?_
 rintro e w2 ⟨k2,m2,v,rfl,hd,hm2,hmv,A1,n1,c1,B1,p1,q1,C1,r1,s1,rfl,hr⟩
 clear hC
 have hr4:w.heap.size + 1<W0.heap.size:=HE.out.2.2.lt
 have h4:AnAt w2 (w.heap.size + 1) 0 0 false none 0 0 none 0 0 none 0 0:=box_mv hmv (HE.out.2.2) HE.out.2.1 (by omega)
 have HD:=Lib.hid (And.intro hd (And.intro hm2 (And.intro hmv hr)))
 have H4:=Lib.hid h4
 have HR4:=Lib.hid hr4
 obtain ⟨d0,d1,d2,d3,d4,d5,d6⟩:=h4.cells
 have g7:=h4.frozen
 clear hd hm2 hmv hr h4 hr4 HX HH
 generalize X=Y at HD HR ⊢
 obtain ⟨dq,⟨e7,rev7,wh7,tx7,op7,se7⟩⟩:=Y
 simp only at HD
 unfold aval
 simp only
 go_wp2_with fail
 refine bodyPost_ret (results_an rfl (by rfl) (H4.out.sets _ _ _ A1 n1 c1 B1 p1 q1 C1 r1 s1)) rfl ?_
 rw [HR.out]
 exact DocP.end_ (dd:=(dq,⟨e7,rev7,wh7,tx7,op7,se7⟩)) HE.out.2.1 HE.out.1 (by omega) HR4.out HD.out.1 HD.out.2.1 HD.out.2.2.1 HD.out.2.2.2 _ _ _ _ _ _ _
set_option maxHeartbeats 2000000 in
theorem does5_any (h:DocAt w D k d m) (hc:0≤x∧x<4294967296) (hr:r≤18446744073709551615) (hp:p≤9223372036854775807) (h0:0≤now) (hnow:now≤1099511627776) (ht:d.t + 1<18446744073709551616) :
  Calls Tryz.prog 10 #[.pointer (some ⟨D,0,none⟩),.agg #[.int .i64 5,.int .u32 x,.int .u64 y,.int .u64 (r:Int),.int .i64 p,.slice A n c,.bool raw,.int .u8 (t:Int)],.int .u64 now] w (DocP w D k m (d.fetch x r p now)):=by
 obtain ⟨X,hX⟩ : ∃ X,X=d.fetch x r p now:=⟨_,rfl⟩
 rw [← hX]
 obtain ⟨R,hR⟩ : ∃ R,R=DocP w D k m X:=⟨_,rfl⟩
 rw [← hR]
 have HR:=Lib.hid hR
 have HX:=Lib.hid hX
 have HH:=Lib.hid h
 clear h hR hX
 go_enter Tryz.func10,Tryz.ntmps10
 go_wp2_with fail
 obtain ⟨os,hos⟩ : ∃ os:List Obj,os=[.cells #[.int .i64 5,.int .u32 x,.int .u64 y,.int .u64 (r:Int),.int .i64 p,.slice A n c,.bool raw,.int .u8 (t:Int)] 31,.cells #[.int .i64 0,.int .u32 0,.int .u64 0,.bool false,.slice none 0 0,.slice none 0 0,.slice none 0 0] 37]:=⟨_,rfl⟩
 have hW:allocs w os=(w.alloc (.cells #[.int .i64 5,.int .u32 x,.int .u64 y,.int .u64 (r:Int),.int .i64 p,.slice A n c,.bool raw,.int .u8 (t:Int)] 31)).alloc (.cells #[.int .i64 0,.int .u32 0,.int .u64 0,.bool false,.slice none 0 0,.slice none 0 0,.slice none 0 0] 37):=by rw [hos];rfl
 rw [← hW]
 have hB:=allocs_below os w
 have e0:=allocs_at os w 0 _ (by rw [hos];rfl)
 have e1:=allocs_at os w 1 _ (by rw [hos];rfl)
 clear hW hos
 generalize allocs w os=W0 at hB e0 e1 ⊢
 clear os
 have hlt:=HH.out.lt
 have HE:=Lib.hid (And.intro hB (And.intro hlt (show AnAt W0 (w.heap.size + 1) 0 0 false none 0 0 none 0 0 none 0 0 from e1)))
 clear hB e0 e1 hlt
 have hC:=fetch_any (HH.out.then_ HE.out.1) hc r hr p hp now h0 hnow ht
 rw [← HX.out] at hC
 refine hC.mono ?_
 rintro e w2 ⟨k2,m2,v,rfl,hd,hm2,hmv,A1,n1,c1,B1,p1,q1,C1,r1,s1,rfl,hr⟩
 clear hC
 have hr4:w.heap.size + 1<W0.heap.size:=HE.out.2.2.lt
 have h4:AnAt w2 (w.heap.size + 1) 0 0 false none 0 0 none 0 0 none 0 0:=box_mv hmv (HE.out.2.2) HE.out.2.1 (by omega)
 have HD:=Lib.hid (And.intro hd (And.intro hm2 (And.intro hmv hr)))
 have H4:=Lib.hid h4
 have HR4:=Lib.hid hr4
 obtain ⟨d0,d1,d2,d3,d4,d5,d6⟩:=h4.cells
 have g7:=h4.frozen
 clear hd hm2 hmv hr h4 hr4 HX HH
 generalize X=Y at HD HR ⊢
 obtain ⟨dq,⟨e7,rev7,wh7,tx7,op7,se7⟩⟩:=Y
 simp only at HD
 unfold aval
 simp only
 go_wp2_with fail
 refine bodyPost_ret (results_an rfl (by rfl) (H4.out.sets _ _ _ A1 n1 c1 B1 p1 q1 C1 r1 s1)) rfl ?_
 rw [HR.out]
 exact DocP.end_ (dd:=(dq,⟨e7,rev7,wh7,tx7,op7,se7⟩)) HE.out.2.1 HE.out.1 (by omega) HR4.out HD.out.1 HD.out.2.1 HD.out.2.2.1 HD.out.2.2.2 _ _ _ _ _ _ _
set_option maxHeartbeats 2000000 in
theorem does6_any (h:DocAt w D k d m) (hc:0≤x∧x<4294967296) (hr:r≤18446744073709551615) (h0:0≤now) (hnow:now≤1099511627776) (ht:d.t + 1<18446744073709551616) :
  Calls Tryz.prog 10 #[.pointer (some ⟨D,0,none⟩),.agg #[.int .i64 6,.int .u32 x,.int .u64 y,.int .u64 (r:Int),.int .i64 p,.slice A n c,.bool raw,.int .u8 (t:Int)],.int .u64 now] w (DocP w D k m (d.move x r p now)):=by
 obtain ⟨X,hX⟩ : ∃ X,X=d.move x r p now:=⟨_,rfl⟩
 rw [← hX]
 obtain ⟨R,hR⟩ : ∃ R,R=DocP w D k m X:=⟨_,rfl⟩
 rw [← hR]
 have HR:=Lib.hid hR
 have HX:=Lib.hid hX
 have HH:=Lib.hid h
 clear h hR hX
 go_enter Tryz.func10,Tryz.ntmps10
 go_wp2_with fail
 obtain ⟨os,hos⟩ : ∃ os:List Obj,os=[.cells #[.int .i64 6,.int .u32 x,.int .u64 y,.int .u64 (r:Int),.int .i64 p,.slice A n c,.bool raw,.int .u8 (t:Int)] 31,.cells #[.int .i64 0,.int .u32 0,.int .u64 0,.bool false,.slice none 0 0,.slice none 0 0,.slice none 0 0] 37]:=⟨_,rfl⟩
 have hW:allocs w os=(w.alloc (.cells #[.int .i64 6,.int .u32 x,.int .u64 y,.int .u64 (r:Int),.int .i64 p,.slice A n c,.bool raw,.int .u8 (t:Int)] 31)).alloc (.cells #[.int .i64 0,.int .u32 0,.int .u64 0,.bool false,.slice none 0 0,.slice none 0 0,.slice none 0 0] 37):=by rw [hos];rfl
 rw [← hW]
 have hB:=allocs_below os w
 have e0:=allocs_at os w 0 _ (by rw [hos];rfl)
 have e1:=allocs_at os w 1 _ (by rw [hos];rfl)
 clear hW hos
 generalize allocs w os=W0 at hB e0 e1 ⊢
 clear os
 have hlt:=HH.out.lt
 have HE:=Lib.hid (And.intro hB (And.intro hlt (show AnAt W0 (w.heap.size + 1) 0 0 false none 0 0 none 0 0 none 0 0 from e1)))
 clear hB e0 e1 hlt
 have hC:=move_any (HH.out.then_ HE.out.1) hc r hr p now h0 hnow ht
 rw [← HX.out] at hC
 refine hC.mono ?_
 rintro e w2 ⟨k2,m2,v,rfl,hd,hm2,hmv,A1,n1,c1,B1,p1,q1,C1,r1,s1,rfl,hr⟩
 clear hC
 have hr4:w.heap.size + 1<W0.heap.size:=HE.out.2.2.lt
 have h4:AnAt w2 (w.heap.size + 1) 0 0 false none 0 0 none 0 0 none 0 0:=box_mv hmv (HE.out.2.2) HE.out.2.1 (by omega)
 have HD:=Lib.hid (And.intro hd (And.intro hm2 (And.intro hmv hr)))
 have H4:=Lib.hid h4
 have HR4:=Lib.hid hr4
 obtain ⟨d0,d1,d2,d3,d4,d5,d6⟩:=h4.cells
 have g7:=h4.frozen
 clear hd hm2 hmv hr h4 hr4 HX HH
 generalize X=Y at HD HR ⊢
 obtain ⟨dq,⟨e7,rev7,wh7,tx7,op7,se7⟩⟩:=Y
 simp only at HD
 unfold aval
 simp only
 go_wp2_with fail
 refine bodyPost_ret (results_an rfl (by rfl) (H4.out.sets _ _ _ A1 n1 c1 B1 p1 q1 C1 r1 s1)) rfl ?_
 rw [HR.out]
 exact DocP.end_ (dd:=(dq,⟨e7,rev7,wh7,tx7,op7,se7⟩)) HE.out.2.1 HE.out.1 (by omega) HR4.out HD.out.1 HD.out.2.1 HD.out.2.2.1 HD.out.2.2.2 _ _ _ _ _ _ _
set_option maxHeartbeats 2000000 in
theorem does7_any (h:DocAt w D k d m) (hc:0≤x∧x<4294967296) (h0:0≤now) (hnow:now≤1099511627776) (ht:d.t + 1<18446744073709551616) :
  Calls Tryz.prog 10 #[.pointer (some ⟨D,0,none⟩),.agg #[.int .i64 7,.int .u32 x,.int .u64 y,.int .u64 (r:Int),.int .i64 p,.slice A n c,.bool raw,.int .u8 (t:Int)],.int .u64 now] w (DocP w D k m (d.who x now)):=by
 obtain ⟨X,hX⟩ : ∃ X,X=d.who x now:=⟨_,rfl⟩
 rw [← hX]
 obtain ⟨R,hR⟩ : ∃ R,R=DocP w D k m X:=⟨_,rfl⟩
 rw [← hR]
 have HR:=Lib.hid hR
 have HX:=Lib.hid hX
 have HH:=Lib.hid h
 clear h hR hX
 go_enter Tryz.func10,Tryz.ntmps10
 go_wp2_with fail
 obtain ⟨os,hos⟩ : ∃ os:List Obj,os=[.cells #[.int .i64 7,.int .u32 x,.int .u64 y,.int .u64 (r:Int),.int .i64 p,.slice A n c,.bool raw,.int .u8 (t:Int)] 31,.cells #[.int .i64 0,.int .u32 0,.int .u64 0,.bool false,.slice none 0 0,.slice none 0 0,.slice none 0 0] 37]:=⟨_,rfl⟩
 have hW:allocs w os=(w.alloc (.cells #[.int .i64 7,.int .u32 x,.int .u64 y,.int .u64 (r:Int),.int .i64 p,.slice A n c,.bool raw,.int .u8 (t:Int)] 31)).alloc (.cells #[.int .i64 0,.int .u32 0,.int .u64 0,.bool false,.slice none 0 0,.slice none 0 0,.slice none 0 0] 37):=by rw [hos];rfl
 rw [← hW]
 have hB:=allocs_below os w
 have e0:=allocs_at os w 0 _ (by rw [hos];rfl)
 have e1:=allocs_at os w 1 _ (by rw [hos];rfl)
 clear hW hos
 generalize allocs w os=W0 at hB e0 e1 ⊢
 clear os
 have hlt:=HH.out.lt
 have HE:=Lib.hid (And.intro hB (And.intro hlt (show AnAt W0 (w.heap.size + 1) 0 0 false none 0 0 none 0 0 none 0 0 from e1)))
 clear hB e0 e1 hlt
 have hC:=who_any (HH.out.then_ HE.out.1) hc now h0 hnow ht
 rw [← HX.out] at hC
 refine hC.mono ?_
 rintro e w2 ⟨k2,m2,v,rfl,hd,hm2,hmv,A1,n1,c1,B1,p1,q1,C1,r1,s1,rfl,hr⟩
 clear hC
 have hr4:w.heap.size + 1<W0.heap.size:=HE.out.2.2.lt
 have h4:AnAt w2 (w.heap.size + 1) 0 0 false none 0 0 none 0 0 none 0 0:=box_mv hmv (HE.out.2.2) HE.out.2.1 (by omega)
 have HD:=Lib.hid (And.intro hd (And.intro hm2 (And.intro hmv hr)))
 have H4:=Lib.hid h4
 have HR4:=Lib.hid hr4
 obtain ⟨d0,d1,d2,d3,d4,d5,d6⟩:=h4.cells
 have g7:=h4.frozen
 clear hd hm2 hmv hr h4 hr4 HX HH
 generalize X=Y at HD HR ⊢
 obtain ⟨dq,⟨e7,rev7,wh7,tx7,op7,se7⟩⟩:=Y
 simp only at HD
 unfold aval
 simp only
 go_wp2_with fail
 refine bodyPost_ret (results_an rfl (by rfl) (H4.out.sets _ _ _ A1 n1 c1 B1 p1 q1 C1 r1 s1)) rfl ?_
 rw [HR.out]
 exact DocP.end_ (dd:=(dq,⟨e7,rev7,wh7,tx7,op7,se7⟩)) HE.out.2.1 HE.out.1 (by omega) HR4.out HD.out.1 HD.out.2.1 HD.out.2.2.1 HD.out.2.2.2 _ _ _ _ _ _ _
set_option maxHeartbeats 2000000 in
theorem does3_any (h:DocAt w D k d m) (hc:0≤x∧x<4294967296) (hr:r≤18446744073709551615) (h0:0≤now) (hnow:now≤1099511627776) (ht:d.t + 1<18446744073709551616) (hm:m + 256≤1073741824) :
  Calls Tryz.prog 10 #[.pointer (some ⟨D,0,none⟩),.agg #[.int .i64 3,.int .u32 x,.int .u64 y,.int .u64 (r:Int),.int .i64 p,.slice A n c,.bool raw,.int .u8 (t:Int)],.int .u64 now] w (DocP w D k m (d.undo x y r now)):=by
 obtain ⟨X,hX⟩ : ∃ X,X=d.undo x y r now:=⟨_,rfl⟩
 rw [← hX]
 obtain ⟨R,hR⟩ : ∃ R,R=DocP w D k m X:=⟨_,rfl⟩
 rw [← hR]
 have HR:=Lib.hid hR
 have HX:=Lib.hid hX
 have HH:=Lib.hid h
 clear h hR hX
 go_enter Tryz.func10,Tryz.ntmps10
 go_wp2_with fail
 obtain ⟨os,hos⟩ : ∃ os:List Obj,os=[.cells #[.int .i64 3,.int .u32 x,.int .u64 y,.int .u64 (r:Int),.int .i64 p,.slice A n c,.bool raw,.int .u8 (t:Int)] 31,.cells #[.int .i64 0,.int .u32 0,.int .u64 0,.bool false,.slice none 0 0,.slice none 0 0,.slice none 0 0] 37]:=⟨_,rfl⟩
 have hW:allocs w os=(w.alloc (.cells #[.int .i64 3,.int .u32 x,.int .u64 y,.int .u64 (r:Int),.int .i64 p,.slice A n c,.bool raw,.int .u8 (t:Int)] 31)).alloc (.cells #[.int .i64 0,.int .u32 0,.int .u64 0,.bool false,.slice none 0 0,.slice none 0 0,.slice none 0 0] 37):=by rw [hos];rfl
 rw [← hW]
 have hB:=allocs_below os w
 have e0:=allocs_at os w 0 _ (by rw [hos];rfl)
 have e1:=allocs_at os w 1 _ (by rw [hos];rfl)
 clear hW hos
 generalize allocs w os=W0 at hB e0 e1 ⊢
 clear os
 have hlt:=HH.out.lt
 have HE:=Lib.hid (And.intro hB (And.intro hlt (show AnAt W0 (w.heap.size + 1) 0 0 false none 0 0 none 0 0 none 0 0 from e1)))
 have HB0:=Lib.hid (show W0.heap[w.heap.size]?=some (.cells #[.int .i64 3,.int .u32 x,.int .u64 y,.int .u64 (r:Int),.int .i64 p,.slice A n c,.bool raw,.int .u8 (t:Int)] 31 (0,0)) from e0)
 have HKC:=Lib.hid (fun (wE:World) (hw:wE.heap[w.heap.size]?=some (.cells #[.int .i64 3,.int .u32 x,.int .u64 y,.int .u64 (r:Int),.int .i64 p,.slice A n c,.bool raw,.int .u8 (t:Int)] 31 (0,0)))=>show wE.cell? ⟨w.heap.size,1,none⟩=some (.int .u32 x)∧wE.cell? ⟨w.heap.size,2,none⟩=some (.int .u64 y)∧wE.cell? ⟨w.heap.size,3,none⟩=some (.int .u64 (r:Int)) from ⟨by rw [cell_of_row wE w.heap.size 1 _ _ _ hw];rfl,by rw [cell_of_row wE w.heap.size 2 _ _ _ hw];rfl,by rw [cell_of_row wE w.heap.size 3 _ _ _ hw];rfl⟩)
 obtain ⟨z1,z2,z3⟩:=HKC.out W0 HB0.out
 have HID:=Lib.hid (fun wE=>id13_any x y wE)
 have HUN:=Lib.hid (fun (wE:World) (hb:Below W0.heap.size W0 wE)=>show Calls Tryz.prog 37 #[.pointer (some ⟨D,0,none⟩),.agg #[.int .u32 x,.int .u64 y],.int .u64 (r:Int),.int .u64 now] wE (DocP wE D k m X) from by rw [HX.out];exact undo_any (y:=y) ((HH.out.then_ HE.out.1).then_ hb) hc r hr now h0 hnow ht hm)
 clear hB e0 e1 hlt
 go_region_held3 (fun w'=>w'.cell? ⟨w.heap.size,1,none⟩=some (.int .u32 x)∧w'.cell? ⟨w.heap.size,2,none⟩=some (.int .u64 y)∧w'.cell? ⟨w.heap.size,3,none⟩=some (.int .u64 (r:Int)))
  (first | go_keep | (go_split_ands;exact HKC.out _ (below_old (below_drew hbI) HB0.out (lt_of_block HB0.out))) | (go_split_ands;exact HKC.out _ (box_mv hmv (below_old (below_drew hbI) HB0.out (lt_of_block HB0.out)) HE.out.2.1 (Nat.le_refl _))) | (go_split_ands;exact HKC.out _ ((tn_seven w2 (w.heap.size + 1) _ _ _ _ _ _ _).old (box_mv hmv (below_old (below_drew hbI) HB0.out (lt_of_block HB0.out)) HE.out.2.1 (Nat.le_refl _)) (fun e=>by omega))))
  (first | (go_at_call 16;refine (HID.out _).mono ?_;rintro e wI ⟨rfl,hbI⟩) | (go_at_call 37;refine (HUN.out _ (below_drew hbI)).mono ?_;rintro e w2 hP;obtain ⟨k2,m2,v,rfl,hd,hm2,hmv,A1,n1,c1,B1,p1,q1,C1,r1,s1,rfl,hr⟩:=id hP;have h4:AnAt w2 (w.heap.size + 1) 0 0 false none 0 0 none 0 0 none 0 0:=box_mv hmv (HE.out.2.2.then_ (below_drew hbI)) HE.out.2.1 (by omega);obtain ⟨d0,d1,d2,d3,d4,d5,d6⟩:=h4.cells;have g7:=h4.frozen;unfold aval))
 have hr4:w.heap.size + 1<W0.heap.size:=HE.out.2.2.lt
 have HBX:=Lib.hid (below_drew hbI)
 have HD:=Lib.hid (And.intro hd (And.intro hm2 (And.intro hmv hr)))
 have H4:=Lib.hid h4
 have HR4:=Lib.hid hr4
 clear hd hm2 hmv hr h4 hr4 hP HUN HID HX HH d0 d1 d2 d3 d4 d5 d6 hbI
 go_wp2_with fail
 refine bodyPost_ret (results_an rfl (by rfl) (H4.out.sets _ _ _ A1 n1 c1 B1 p1 q1 C1 r1 s1)) rfl ?_
 rw [HR.out]
 exact DocP.end_ HE.out.2.1 (HE.out.1.trans (HBX.out.mono HE.out.1.size)) (by omega) (Nat.lt_of_lt_of_le HR4.out HBX.out.size) HD.out.1 HD.out.2.1 HD.out.2.2.1 HD.out.2.2.2 _ _ _ _ _ _ _
set_option maxHeartbeats 2000000 in
theorem does8_any (h:DocAt w D k d m) (q:Int) (q0:¬ q=0) (q1:¬ q=1) (q2:¬ q=2) (q3:¬ q=3) (q4:¬ q=4) (q5:¬ q=5) (q6:¬ q=6) (q7:¬ q=7) :
  Calls Tryz.prog 10 #[.pointer (some ⟨D,0,none⟩),.agg #[.int .i64 q,.int .u32 x,.int .u64 y,.int .u64 (r:Int),.int .i64 p,.slice A n c,.bool raw,.int .u8 (t:Int)],.int .u64 now] w (DocP w D k m (d,Pl.fails 0)):=by
 have z0:(q == 0)=false:=by simpa using q0
 have z1:(q == 1)=false:=by simpa using q1
 have z2:(q == 2)=false:=by simpa using q2
 have z3:(q == 3)=false:=by simpa using q3
 have z4:(q == 4)=false:=by simpa using q4
 have z5:(q == 5)=false:=by simpa using q5
 have z6:(q == 6)=false:=by simpa using q6
 have z7:(q == 7)=false:=by simpa using q7
 obtain ⟨R,hR⟩ : ∃ R,R=DocP w D k m (d,Pl.fails 0):=⟨_,rfl⟩
 rw [← hR]
 have HR:=Lib.hid hR
 have HH:=Lib.hid h
 clear h hR q0 q1 q2 q3 q4 q5 q6 q7
 go_enter Tryz.func10,Tryz.ntmps10
 go_wp2_with fail
 obtain ⟨os,hos⟩ : ∃ os:List Obj,os=[.cells #[.int .i64 q,.int .u32 x,.int .u64 y,.int .u64 (r:Int),.int .i64 p,.slice A n c,.bool raw,.int .u8 (t:Int)] 31,.cells #[.int .i64 0,.int .u32 0,.int .u64 0,.bool false,.slice none 0 0,.slice none 0 0,.slice none 0 0] 37]:=⟨_,rfl⟩
 have hW:allocs w os=(w.alloc (.cells #[.int .i64 q,.int .u32 x,.int .u64 y,.int .u64 (r:Int),.int .i64 p,.slice A n c,.bool raw,.int .u8 (t:Int)] 31)).alloc (.cells #[.int .i64 0,.int .u32 0,.int .u64 0,.bool false,.slice none 0 0,.slice none 0 0,.slice none 0 0] 37):=by rw [hos];rfl
 rw [← hW]
 have hB:=allocs_below os w
 have e1:=allocs_at os w 1 _ (by rw [hos];rfl)
 clear hW hos
 generalize allocs w os=W0 at hB e1 ⊢
 have hA:AnAt W0 (w.heap.size + 1) 0 0 false none 0 0 none 0 0 none 0 0:=e1
 refine bodyPost_ret (results_an rfl (by rfl) hA) rfl ?_
 rw [HR.out]
 exact ⟨k,m,_,rfl,HH.out.then_ hB,Nat.le_add_right _ _,Mv.of k hB,AnV.fails _ _ 0⟩
end
end Go.Proofs.YtlgdcelgkiipaaaGreat
