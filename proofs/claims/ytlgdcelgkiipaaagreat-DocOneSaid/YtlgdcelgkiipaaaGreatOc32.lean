/-
  slices.Reverse at a row of units of the law's own. Conditions: rows of at most a thousand units.
  undo.Inverse's closure, undo.Inverse. Conditions: rows of at most a thousand units.
-/
import Derived.Test.YtlgdcelgkiipaaaGreatOc31
set_option maxRecDepth 100000
set_option linter.unusedVariables false
namespace Go.Proofs.YtlgdcelgkiipaaaGreat
open Go.RowKit
open Pl (Un)
def ReS (wr:World) (base:Nat) (V:Value) (X X1 X2:List Un) (L:Nat→Bool) (w:World):Prop :=
 (L 13=false→OwnU w base V X)∧(L 13=true→L 7=true∧L 11=true∧(L 15=false→OwnU w base V X1))∧(L 15=true→L 13=true∧OwnU w base V X2)∧Tn (fun b=>V.ownBlock=some b) wr w
section
variable {wr w w':World} {base i:Nat} {V:Value} {X X1 X2:List Un} {L:Nat→Bool}
theorem ReS.tn (h:ReS wr base V X X1 X2 L w):Tn (fun b=>V.ownBlock=some b) wr w:=h.2.2.2
theorem ReS.stay (h:ReS wr base V X X1 X2 L w) (h13:i≠13) (h15:i≠15):ReS wr base V X X1 X2 (Rq.up L i) w:=by
 obtain ⟨g1,g2,g3,g4⟩:=h
 unfold ReS
 rw [rq_other h13,rq_other h15]
 exact ⟨g1,fun h=>⟨rq_keep (g2 h).1,rq_keep (g2 h).2.1,(g2 h).2.2⟩,g3,g4⟩
theorem ReS.old7 (h:ReS wr base V X X1 X2 L w) (hL:L 7=false):OwnU w base V X:=by
 refine h.1 ?_
 cases e:L 13 with
 | false=>rfl
 | true=>have:=(h.2.1 e).1;rw [hL] at this;cases this
theorem ReS.old11 (h:ReS wr base V X X1 X2 L w) (hL:L 11=false):OwnU w base V X:=by
 refine h.1 ?_
 cases e:L 13 with
 | false=>rfl
 | true=>have:=(h.2.1 e).2.1;rw [hL] at this;cases this
theorem ReS.laid13 {g n c k:Nat} {u:Un} (h:ReS wr base (.slice (some ⟨g,0,none⟩) n c) X X1 X2 L w) (hL:L 13=false) (h7:L 7=true) (h11:L 11=true) (hk:k<n) (hr:X1=X.set k u) :
  ReS wr base (.slice (some ⟨g,0,none⟩) n c) X X1 X2 (Rq.up L 13) (((((w.setCell ⟨g,k * 5,none⟩ (.int .i64 u.k)).setCell ⟨g,k * 5 + 1,none⟩ (.int .i64 u.p)).setCell ⟨g,k * 5 + 2,none⟩ (.int .i32 u.c)).setCell ⟨g,k * 5 + 3,none⟩ (.int .u32 u.x)).setCell ⟨g,k * 5 + 4,none⟩ (.int .u64 u.y)):=by
 obtain ⟨g1,g2,g3,g4⟩:=h
 have e15:Rq.up L 13 15=L 15:=rq_other (by decide)
 refine ⟨(fun e=>by rw [rq_same] at e;cases e),fun _=>⟨rq_keep h7,rq_keep h11,fun _=>?_⟩,fun h=>?_,tn_five g4 (Or.inr rfl) _ _ _ _ _⟩
 ·rw [hr];exact OwnU.sets (g1 hL) hk u
 ·rw [e15] at h;have:=(g3 h).1;rw [hL] at this;cases this
theorem ReS.laid15 {g n c k:Nat} {u:Un} (h:ReS wr base (.slice (some ⟨g,0,none⟩) n c) X X1 X2 L w) (hL:L 15=false) (h13:L 13=true) (hk:k<n) (hr:X2=X1.set k u) :
  ReS wr base (.slice (some ⟨g,0,none⟩) n c) X X1 X2 (Rq.up L 15) (((((w.setCell ⟨g,k * 5,none⟩ (.int .i64 u.k)).setCell ⟨g,k * 5 + 1,none⟩ (.int .i64 u.p)).setCell ⟨g,k * 5 + 2,none⟩ (.int .i32 u.c)).setCell ⟨g,k * 5 + 3,none⟩ (.int .u32 u.x)).setCell ⟨g,k * 5 + 4,none⟩ (.int .u64 u.y)):=by
 obtain ⟨g1,g2,g3,g4⟩:=h
 have e13:Rq.up L 15 13=L 13:=rq_other (by decide)
 refine ⟨(fun e=>by rw [e13,h13] at e;cases e),fun _=>⟨rq_keep (g2 h13).1,rq_keep (g2 h13).2.1,(fun e=>by rw [rq_same] at e;cases e)⟩,fun _=>⟨rq_keep h13,?_⟩,tn_five g4 (Or.inr rfl) _ _ _ _ _⟩
 rw [hr];exact OwnU.sets ((g2 h13).2.2 hL) hk u
end
def RvR (w:World) (base:Nat) (V:Value) (l:List Un) (vi vj:Value) (wr:World):Prop :=
 ∃ (i:Nat) (X:List Un),vi=.int .i64 (i:Int)∧vj=.int .i64 ((l.length:Int) - 1 - (i:Int))∧2 * i≤l.length + 1∧X.length=l.length∧(∀ t,t<l.length→X.getD t default=if t<i∨l.length≤t + i then l.getD (l.length - 1 - t) default else l.getD t default)∧OwnU wr base V X∧Tn (fun b=>V.ownBlock=some b) w wr
theorem set_getD (X:List Un) (i t:Nat) (u:Un) (hi:i<X.length):(X.set i u).getD t default=if i=t then u else X.getD t default:=by
 rw [List.getD_eq_getElem?_getD,List.getElem?_set]
 split
 ·rename_i h;subst h;simp
 ·rw [List.getD_eq_getElem?_getD]
theorem ext_un {xs bs:List Un} (hl:xs.length=bs.length) (h:∀ t,t<xs.length→xs.getD t default=bs.getD t default):xs=bs:=by
 refine List.ext_getElem hl fun i h1 h2=>?_
 have:=h i h1
 rwa [List.getD_eq_getElem?_getD,List.getD_eq_getElem?_getD,List.getElem?_eq_getElem h1,List.getElem?_eq_getElem h2] at this
theorem rev_getD (l:List Un) (t:Nat) (ht:t<l.length):l.reverse.getD t default=l.getD (l.length - 1 - t) default:=by
 rw [List.getD_eq_getElem?_getD,List.getD_eq_getElem?_getD,List.getElem?_reverse ht]
set_option maxHeartbeats 1000000 in
theorem reverse_any (w:World) (base:Nat) (A:Option Addr) (n c:Nat) (l:List Un) (h:OwnU w base (.slice A n c) l) (hn:n≤1000) :
  Calls Tryz.prog 231 #[.slice A n c] w fun e w'=>e=.returned (.tuple #[])∧OwnU w' base (.slice A n c) l.reverse∧Tn (fun b=>Value.ownBlock (.slice A n c)=some b) w w':=by
 have HL:=Lib.hid (OwnU.len h)
 have HI:=Lib.hid (show RvR w base (.slice A n c) l (.int .i64 ((0:Nat):Int)) (.int .i64 ((n:Int) - 1)) w from ⟨0,l,rfl,by rw [HL.out];simp,by omega,rfl,fun t ht=>by rw [if_neg (by omega)],h,Tn.refl _ _⟩)
 have hw0:wrap64 ((n:Int) - 1)=(n:Int) - 1:=by unfold wrap64;omega
 clear h
 go_enter Tryz.func231,Tryz.ntmps231
 go_wp2_with fail
 clear hw0
 go_loopw [2,3] (fun vi vj wr=>RvR w base (.slice A n c) l vi vj wr) (fun vi _ _=>n + 1 - 2 * (intOf vi).toNat)
 case atStart=>exact HI.out
 case round =>
  obtain ⟨i,X,rfl,rfl,hi2,hXl,hX,ho,ht⟩:=hrel
  have HO:=Lib.hid ho
  have HT:=Lib.hid ht
  have HX:=Lib.hid hX
  have HXL:=Lib.hid hXl
  rw [← HL.out] at hi2 ⊢
  by_cases hlt:(i:Int)<(n:Int) - 1 - (i:Int)
  ·obtain ⟨j,hj⟩ : ∃ j:Nat,(n:Int) - 1 - (i:Int)=(j:Int):=⟨n - 1 - i,by omega⟩
   have hjn:j<n:=by omega
   have hin:i<n:=by omega
   obtain ⟨g,rfl,_,_⟩:=OwnR.pos_ ho (by omega)
   rw [hj] at hlt ⊢
   have HJN:=Lib.hid hjn
   have HIN:=Lib.hid hin
   obtain ⟨⟨ki,pi,ci,xi,yi⟩,hxi⟩ : ∃ u,u=X.getD i default:=⟨_,rfl⟩
   obtain ⟨⟨kj,pj,cj,xj,yj⟩,hxj⟩ : ∃ u,u=X.getD j default:=⟨_,rfl⟩
   have HXI:=Lib.hid hxi.symm
   have HXJ:=Lib.hid hxj.symm
   have HS0:=Lib.hid (show ReS wr base (.slice (some ⟨g,0,none⟩) n c) X (X.set i ⟨kj,pj,cj,xj,yj⟩) ((X.set i ⟨kj,pj,cj,xj,yj⟩).set j ⟨ki,pi,ci,xi,yi⟩) (fun _=>false) wr.drew from
    ⟨fun _=>OwnR.then_ ho (below_drawn (Below.refl _ _)),(fun e=>by cases e),(fun e=>by cases e),(Tn.refl _ _).drew⟩)
   have HNX:=Lib.hid (show ∀ t,t<l.length→((X.set i ⟨kj,pj,cj,xj,yj⟩).set j ⟨ki,pi,ci,xi,yi⟩).getD t default=if t<i + 1∨l.length≤t + (i + 1) then l.getD (l.length - 1 - t) default else l.getD t default from fun t ht=>by
    have hl:=HL.out
    rw [set_getD _ _ _ _ (by rw [List.length_set];omega),set_getD _ _ _ _ (by omega)]
    by_cases h1:j=t
    ·rw [if_pos h1,if_pos (by omega),hxi,hX i (by omega),if_neg (by omega),show l.length - 1 - t=i by omega]
    ·rw [if_neg h1]
     by_cases h2:i=t
     ·rw [if_pos h2,if_pos (by omega),hxj,hX j (by omega),if_neg (by omega),show l.length - 1 - t=j by omega]
     ·rw [if_neg h2,hX t ht]
      by_cases h3:t<i∨l.length≤t + i
      ·rw [if_pos h3,if_pos (by omega)]
      ·rw [if_neg h3,if_neg (by omega)])
   have HJE:=Lib.hid hj
   have HMS:=Lib.hid (show n + 1 - 2 * (i + 1)<n + 1 - 2 * i by omega)
   have HI2:=Lib.hid (show 2 * (i + 1)≤l.length + 1 by have:=HL.out;omega)
   have z0:(0:Int)≤(i:Int):=Int.natCast_nonneg i
   have z1:(i:Int)<(n:Int):=Int.ofNat_lt.2 hin
   have y0:(0:Int)≤(j:Int):=Int.natCast_nonneg j
   have y1:(j:Int)<(n:Int):=Int.ofNat_lt.2 hjn
   have HW1:=Lib.hid (show wrap64 ((i:Int) + 1)=((i + 1:Nat):Int) by unfold wrap64;omega)
   have HW2:=Lib.hid (show wrap64 ((j:Int) - 1)=(l.length:Int) - 1 - ((i + 1:Nat):Int) by have:=HL.out;unfold wrap64;omega)
   clear hxi hxj hX ho ht hXl hjn hin hj hi2
   go_wp2_with fail
   refine Rq.wp_region_inv (ReS wr base (.slice (some ⟨g,0,none⟩) n c) X (X.set i ⟨kj,pj,cj,xj,yj⟩) ((X.set i ⟨kj,pj,cj,xj,yj⟩).set j ⟨ki,pi,ci,xi,yi⟩)) PR0 (Rq.Wd.at [.is (.slice (some ⟨g,0,none⟩) n c),.is (.int .i64 (i:Int)),.is (.slice (some ⟨g,0,none⟩) n c),.is (.int .i64 (j:Int)),.is (.slice (some ⟨g,0,none⟩) n c),.is (.int .i64 (j:Int)),.is (.pointer (some ⟨g,j * 5,none⟩)),.is (.agg #[.int .i64 kj,.int .i64 pj,.int .i32 cj,.int .u32 xj,.int .u64 yj]),.is (.slice (some ⟨g,0,none⟩) n c),.is (.int .i64 (i:Int)),.is (.pointer (some ⟨g,i * 5,none⟩)),.is (.agg #[.int .i64 ki,.int .i64 pi,.int .i32 ci,.int .u32 xi,.int .u64 yi]),.is (.pointer (some ⟨g,i * 5,none⟩)),.any,.is (.pointer (some ⟨g,j * 5,none⟩)),.any]) (by kernel_rfl) (by kernel_rfl) (Rq.Wd.stays _ _ (fun i q hi=>(by rcases i with _ | _ | _ | _ | _ | _ | _ | _ | _ | _ | _ | _ | _ | _ | _ | _ | i <;> simp at hi))) (HS0.out) ⟨?_,?_,?_,?_,?_,?_,?_,?_,?_,?_,?_,?_,?_,?_,?_,?_,trivial⟩ ?_
   ·intro L a w1 hL hS hb hd
    have e0:=hb 0 (Rq.nw (by decide))
    simp [Act.eval] at e0
    exact Rq.does_pure (Rq.wanted_none rfl) (by simp [execOp,e0,go_sem]) rfl (hS.stay (by decide) (by decide)) trivial
   ·intro L a w1 hL hS hb hd
    have e2:=hb 2 (Rq.nw (by decide))
    simp [Act.eval] at e2
    exact Rq.does_pure (Rq.wanted_none rfl) (by simp [execOp,e2,go_sem]) rfl (hS.stay (by decide) (by decide)) trivial
   ·intro L a w1 hL hS hb hd
    have e0:=hb 0 (Rq.nw (by decide))
    simp [Act.eval] at e0
    exact Rq.does_pure (Rq.wanted_none rfl) (by simp [execOp,e0,go_sem]) rfl (hS.stay (by decide) (by decide)) trivial
   ·intro L a w1 hL hS hb hd
    have e3:=hb 3 (Rq.nw (by decide))
    simp [Act.eval] at e3
    exact Rq.does_pure (Rq.wanted_none rfl) (by simp [execOp,e3,go_sem]) rfl (hS.stay (by decide) (by decide)) trivial
   ·intro L a w1 hL hS hb hd
    have e0:=hb 0 (Rq.nw (by decide))
    simp [Act.eval] at e0
    exact Rq.does_pure (Rq.wanted_none rfl) (by simp [execOp,e0,go_sem]) rfl (hS.stay (by decide) (by decide)) trivial
   ·intro L a w1 hL hS hb hd
    have e3:=hb 3 (Rq.nw (by decide))
    simp [Act.eval] at e3
    exact Rq.does_pure (Rq.wanted_none rfl) (by simp [execOp,e3,go_sem]) rfl (hS.stay (by decide) (by decide)) trivial
   ·intro L a w1 hL hS hb hd
    have p18:=(hd ⟨4,.data⟩ (by simp) rfl).2 _ _ rfl rfl
    have e18:a.tmps[18]?.getD undef=(.slice (some ⟨g,0,none⟩) n c):=Rq.slot p18
    have p19:=(hd ⟨5,.data⟩ (by simp) rfl).2 _ _ rfl rfl
    have e19:a.tmps[19]?.getD undef=(.int .i64 (j:Int)):=Rq.slot p19
    exact Rq.does_pure (Rq.wanted_none rfl) (by simp [execOp,e18,e19,y0,y1,go_sem]) rfl (hS.stay (by decide) (by decide)) trivial
   ·intro L a w1 hL hS hb hd
    have p20:=(hd ⟨6,.data⟩ (by simp) rfl).2 _ _ rfl rfl
    have e20:a.tmps[20]?.getD undef=(.pointer (some ⟨g,j * 5,none⟩)):=Rq.slot p20
    obtain ⟨d0,d1,d2,d3,d4,f2⟩:=OwnU.cells (hS.old7 hL) HJN.out;rw [HXJ.out] at d0 d1 d2 d3 d4;exact Rq.does_pure (Rq.wanted_none rfl) (by simp [execOp,e20,d0,d1,d2,d3,d4,go_sem]) rfl (hS.stay (by decide) (by decide)) trivial
   ·intro L a w1 hL hS hb hd
    have e0:=hb 0 (Rq.nw (by decide))
    simp [Act.eval] at e0
    exact Rq.does_pure (Rq.wanted_none rfl) (by simp [execOp,e0,go_sem]) rfl (hS.stay (by decide) (by decide)) trivial
   ·intro L a w1 hL hS hb hd
    have e2:=hb 2 (Rq.nw (by decide))
    simp [Act.eval] at e2
    exact Rq.does_pure (Rq.wanted_none rfl) (by simp [execOp,e2,go_sem]) rfl (hS.stay (by decide) (by decide)) trivial
   ·intro L a w1 hL hS hb hd
    have p22:=(hd ⟨8,.data⟩ (by simp) rfl).2 _ _ rfl rfl
    have e22:a.tmps[22]?.getD undef=(.slice (some ⟨g,0,none⟩) n c):=Rq.slot p22
    have p23:=(hd ⟨9,.data⟩ (by simp) rfl).2 _ _ rfl rfl
    have e23:a.tmps[23]?.getD undef=(.int .i64 (i:Int)):=Rq.slot p23
    exact Rq.does_pure (Rq.wanted_none rfl) (by simp [execOp,e22,e23,z0,z1,go_sem]) rfl (hS.stay (by decide) (by decide)) trivial
   ·intro L a w1 hL hS hb hd
    have p24:=(hd ⟨10,.data⟩ (by simp) rfl).2 _ _ rfl rfl
    have e24:a.tmps[24]?.getD undef=(.pointer (some ⟨g,i * 5,none⟩)):=Rq.slot p24
    obtain ⟨d0,d1,d2,d3,d4,f2⟩:=OwnU.cells (hS.old11 hL) HIN.out;rw [HXI.out] at d0 d1 d2 d3 d4;exact Rq.does_pure (Rq.wanted_none rfl) (by simp [execOp,e24,d0,d1,d2,d3,d4,go_sem]) rfl (hS.stay (by decide) (by decide)) trivial
   ·intro L a w1 hL hS hb hd
    have p14:=(hd ⟨0,.data⟩ (by simp) rfl).2 _ _ rfl rfl
    have e14:a.tmps[14]?.getD undef=(.slice (some ⟨g,0,none⟩) n c):=Rq.slot p14
    have p15:=(hd ⟨1,.data⟩ (by simp) rfl).2 _ _ rfl rfl
    have e15:a.tmps[15]?.getD undef=(.int .i64 (i:Int)):=Rq.slot p15
    exact Rq.does_pure (Rq.wanted_none rfl) (by simp [execOp,e14,e15,z0,z1,go_sem]) rfl (hS.stay (by decide) (by decide)) trivial
   ·intro L a w1 hL hS hb hd
    have p26:=(hd ⟨12,.data⟩ (by simp) rfl).2 _ _ rfl rfl
    have e26:a.tmps[26]?.getD undef=(.pointer (some ⟨g,i * 5,none⟩)):=Rq.slot p26
    have p21:=(hd ⟨7,.data⟩ (by simp) rfl).2 _ _ rfl rfl
    have e21:a.tmps[21]?.getD undef=(.agg #[.int .i64 kj,.int .i64 pj,.int .i32 cj,.int .u32 xj,.int .u64 yj]):=Rq.slot p21
    have hU:=hS.1 hL;have q7:=(hd ⟨7,.phase⟩ (by simp) rfl).1;have q11:=(hd ⟨11,.phase⟩ (by simp) rfl).1;obtain ⟨d0,d1,d2,d3,d4,f2⟩:=OwnU.cells hU HIN.out;exact Rq.does_skip rfl (Rq.wanted_none rfl) (by simp [execOp,e26,e21,go_sem,d0,d1,d2,d3,d4,f2]) trivial (hS.laid13 (u:=⟨kj,pj,cj,xj,yj⟩) hL q7 q11 HIN.out rfl) trivial
   ·intro L a w1 hL hS hb hd
    have p16:=(hd ⟨2,.data⟩ (by simp) rfl).2 _ _ rfl rfl
    have e16:a.tmps[16]?.getD undef=(.slice (some ⟨g,0,none⟩) n c):=Rq.slot p16
    have p17:=(hd ⟨3,.data⟩ (by simp) rfl).2 _ _ rfl rfl
    have e17:a.tmps[17]?.getD undef=(.int .i64 (j:Int)):=Rq.slot p17
    exact Rq.does_pure (Rq.wanted_none rfl) (by simp [execOp,e16,e17,y0,y1,go_sem]) rfl (hS.stay (by decide) (by decide)) trivial
   ·intro L a w1 hL hS hb hd
    have p27:=(hd ⟨14,.data⟩ (by simp) rfl).2 _ _ rfl rfl
    have e27:a.tmps[27]?.getD undef=(.pointer (some ⟨g,j * 5,none⟩)):=Rq.slot p27
    have p25:=(hd ⟨11,.data⟩ (by simp) rfl).2 _ _ rfl rfl
    have e25:a.tmps[25]?.getD undef=(.agg #[.int .i64 ki,.int .i64 pi,.int .i32 ci,.int .u32 xi,.int .u64 yi]):=Rq.slot p25
    have q13:=(hd ⟨13,.phase⟩ (by simp) rfl).1;have hU:=(hS.2.1 q13).2.2 hL;obtain ⟨d0,d1,d2,d3,d4,f2⟩:=OwnU.cells hU HJN.out;exact Rq.does_skip rfl (Rq.wanted_none rfl) (by simp [execOp,e27,e25,go_sem,d0,d1,d2,d3,d4,f2]) trivial (hS.laid15 (u:=⟨ki,pi,ci,xi,yi⟩) hL q13 HJN.out rfl) trivial
   ·intro L v w3 hS hall hv
    have HO3:=Lib.hid (hS.2.2.1 (hall 15 (by decide))).2
    have HT3:=Lib.hid (HT.out.trans hS.tn (fun _ _ h=>h))
    simp only [Rq.putAll,Nat.zero_add,Nat.reduceAdd]
    simp only [Act.put,List.setIfInBounds_toArray,List.set_cons_succ,List.set_cons_zero]
    clear hS hall hv
    go_wp2_with fail
    go_roundw
    case rel=>exact ⟨i + 1,_,by go_num,by have:=HL.out;have:=HJE.out;congr 1;omega,HI2.out,by rw [List.length_set,List.length_set];exact HXL.out,HNX.out,HO3.out,HT3.out⟩
    case measure=>simp [intOf];exact HMS.out
  ·have hE:X=l.reverse:=ext_un (by rw [List.length_reverse];exact hXl) (fun t ht=>by
    have hl:=HL.out
    rw [hX t (by omega),rev_getD l t (by omega)]
    split
    ·rfl
    ·rw [show l.length - 1 - t=t by omega])
   rw [hE] at HO
   clear hE hX ho ht HX
   go_wp2_with fail
   exact ⟨rfl,_,results_none (by kernel_rfl) _ _ _,rfl,HO.out,HT.out⟩
open Go.RowKit
open Pl (Un)
def IdAt (w:World) (b:Nat) (x y:Int):Prop:=w.heap[b]?=some (.cells #[.int .u32 x,.int .u64 y] 43 (0,0))
theorem IdAt.cells {w:World} {b:Nat} {x y:Int} (h:IdAt w b x y):w.cell? ⟨b,0,none⟩=some (.int .u32 x)∧w.cell? ⟨b,1,none⟩=some (.int .u64 y):=⟨cell0 (r:=[.int .u64 y]) h,cell1 (r:=[]) h⟩
theorem IdAt.lt {w:World} {b:Nat} {x y:Int} (h:IdAt w b x y):b<w.heap.size:=lt_of_block h
theorem IdAt.tn {T:Nat→Prop} {w w':World} {b:Nat} {x y:Int} (h:IdAt w b x y) (ht:Tn T w w') (hT:¬ T b):IdAt w' b x y:=ht.old h hT
set_option maxHeartbeats 400000 in
theorem invert_any (u:Un) (x y:Int) (pb:Nat) (w:World) (hp:IdAt w pb x y) :
  Calls Tryz.prog 230 #[uval u,.pointer (some ⟨pb,0,none⟩)] w fun e w'=>e=.returned (uval (Pl.invU x y u))∧Below w.heap.size w w':=by
 obtain ⟨k,p,ch,x0,y0⟩:=u
 have hb2:Below w.heap.size w ((w.alloc (.cells #[.int .i64 k,.int .i64 p,.int .i32 ch,.int .u32 x0,.int .u64 y0] 47)).alloc (.cells #[.int .i64 0,.int .i64 0,.int .i32 0,.int .u32 0,.int .u64 0] 47)):=below_alloc (below_box _ _) _
 obtain ⟨W2,hW2⟩ : ∃ W2,W2=(w.alloc (.cells #[.int .i64 k,.int .i64 p,.int .i32 ch,.int .u32 x0,.int .u64 y0] 47)).alloc (.cells #[.int .i64 0,.int .i64 0,.int .i32 0,.int .u32 0,.int .u64 0] 47):=⟨_,rfl⟩
 rw [← hW2] at hb2
 have hu:UAt W2 w.heap.size k p ch x0 y0:=by rw [hW2];exact (uat_new w k p ch x0 y0).alloc _
 have hr:UAt W2 (w.heap.size + 1) 0 0 0 0 0:=by rw [hW2];exact heap_new (by simp)
 obtain ⟨a0,a1,a2,a3,a4⟩:=hu.cells
 obtain ⟨r0,r1,r2,r3,r4⟩:=hr.cells
 have rf:=fun j=>hr.frozen j
 obtain ⟨i0,i1⟩:=(hp.tn (Tn.of (fun _=>False) hb2) (fun h=>h)).cells
 have HR:=Lib.hid hr
 have HB:=Lib.hid hb2
 have HW:=Lib.hid hW2
 obtain ⟨⟨kr,pr,cr,xr,yr⟩,hq⟩ : ∃ q,q=Pl.invU x y ⟨k,p,ch,x0,y0⟩:=⟨_,rfl⟩
 rw [← hq]
 have HQ:=Lib.hid hq
 unfold uval
 simp only
 rw [hW2] at a0 a1 a2 a3 a4 r0 r1 r2 r3 r4 i0 i1
 simp only [hW2] at rf
 clear hu hr hb2 hq hW2 hp
 by_cases h1:k=1
 ·subst h1
  have HE:=Lib.hid (show (⟨kr,pr,cr,xr,yr⟩ : Un)=⟨2,p,0,x,y⟩ from HQ.out)
  go_enter Tryz.func230,Tryz.ntmps230
  go_wp2_with fail
  exact bodyPost_ret (results_unit rfl (by rfl) (show UAt _ (w.heap.size + 1) 2 p 0 x y from heap_new (by simp))) rfl ⟨by rw [show (.agg #[.int .i64 kr,.int .i64 pr,.int .i32 cr,.int .u32 xr,.int .u64 yr]:Value)=uval ⟨kr,pr,cr,xr,yr⟩ from rfl,HE.out],below_alloc (below_box _ _) _⟩
 ·have h1b:(k == 1)=false:=by simpa using h1
  by_cases h2:k=2
  ·subst h2
   have HE:=Lib.hid (show (⟨kr,pr,cr,xr,yr⟩ : Un)=⟨1,p,ch,x,y⟩ from HQ.out)
   go_enter Tryz.func230,Tryz.ntmps230
   go_wp2_with fail
   exact bodyPost_ret (results_unit rfl (by rfl) (show UAt _ (w.heap.size + 1) 1 p ch x y from heap_new (by simp))) rfl ⟨by rw [show (.agg #[.int .i64 kr,.int .i64 pr,.int .i32 cr,.int .u32 xr,.int .u64 yr]:Value)=uval ⟨kr,pr,cr,xr,yr⟩ from rfl,HE.out],below_alloc (below_box _ _) _⟩
  ·have h2b:(k == 2)=false:=by simpa using h2
   have HE:=Lib.hid (show (⟨kr,pr,cr,xr,yr⟩ : Un)=⟨0,0,0,x,y⟩ by rw [HQ.out];unfold Pl.invU;rw [if_neg h1,if_neg h2])
   clear h1 h2
   go_enter Tryz.func230,Tryz.ntmps230
   go_wp2_with fail
   exact bodyPost_ret (results_unit rfl (by rfl) (show UAt _ (w.heap.size + 1) 0 0 0 x y from heap_new (by simp))) rfl ⟨by rw [show (.agg #[.int .i64 kr,.int .i64 pr,.int .i32 cr,.int .u32 xr,.int .u64 yr]:Value)=uval ⟨kr,pr,cr,xr,yr⟩ from rfl,HE.out],below_alloc (below_box _ _) _⟩
theorem callInv (args:Array Value) (w:World):(callFunc 230 args).run Tryz.prog w=.ok (.enter 230 args) w:=by simp [go_sem]
theorem inv_outs (x y:Int) (l:List Un):(List.range l.length).map (fun j=>Pl.invU x y (l.getD j default))=l.map (Pl.invU x y):=by
 refine List.ext_getElem (by simp) fun i h1 h2=>?_
 have hi:i<l.length:=by simpa using h1
 simp [List.getD_eq_getElem?_getD,hi]
set_option maxHeartbeats 400000 in
theorem inverse_any (A:Option Addr) (n c:Nat) (l:List Un) (x y:Int) (w:World) (h1:Uns w w.heap.size A n c l) (hr:n≤1000) :
  Calls Tryz.prog 186 #[.slice A n c,.agg #[.int .u32 x,.int .u64 y]] w (RetU w (Pl.invR x y l)):=by
 obtain ⟨W1,hW1⟩ : ∃ W1,W1=w.alloc (.cells #[.int .u32 x,.int .u64 y] 43):=⟨_,rfl⟩
 have hb1:Below w.heap.size w W1:=by rw [hW1];exact below_box _ _
 have hid:IdAt W1 w.heap.size x y:=by rw [hW1];exact heap_new rfl
 have HL:=Lib.hid h1.len
 have HLR:=Lib.hid (show l.length≤1000 by rw [h1.len];exact hr)
 have HT:=Lib.hid (turn_any 230 #[.pointer (some ⟨w.heap.size,0,none⟩)] callInv A n c l W1 (Rws.then_ h1 hb1) hr (fun _ X wr=>(X=fun b=>b=w.heap.size)∧IdAt wr w.heap.size x y) (fun j=>Pl.invU x y (l.getD j default)) (fun b=>b=w.heap.size)
  (fun j X wr _ hS=>(invert_any (l.getD j default) x y w.heap.size wr hS.2).mono fun e w' h=>⟨h.1,X,⟨hS.1,hS.2.tn (Tn.of (fun _=>False) h.2) (fun h=>h)⟩,Tn.of _ h.2,fun b hb=>Or.inl hb⟩)
  (fun j X Y wr w' hS ht hd=>⟨hS.1,hS.2.tn ht (fun h=>hd _ h (by rw [hS.1]))⟩) ⟨rfl,hid⟩ (fun b hb=>by rw [hb];exact hid.lt))
 have HB1:=Lib.hid hb1
 have HW1:=Lib.hid hW1
 clear h1 hb1 hid hW1
 go_enter Tryz.func186,Tryz.ntmps186
 go_wp2_with fail
 rw [show w.alloc (.cells #[.int .u32 x,.int .u64 y] 43)=W1 from HW1.out.symm]
 refine HT.out.mono ?_
 rintro e w2 ⟨A2,c2,rfl,ho,_,ht⟩
 rw [inv_outs] at ho
 have HB2:=Lib.hid (show Below w.heap.size w w2 from ht.below HB1.out HB1.out.size (fun b hb=>by omega))
 have HV:=Lib.hid (reverse_any w2 w.heap.size A2 l.length c2 (l.map (Pl.invU x y)) (OwnR.lower ho HB1.out.size) HLR.out)
 have HOL:=Lib.hid ho
 clear ho ht HT
 go_wp2_with fail
 refine HV.out.mono ?_
 rintro e w3 ⟨rfl,ho,ht⟩
 have HO:=Lib.hid (show OwnU w3 w.heap.size (.slice A2 l.length c2) (Pl.invR x y l) from ho)
 have HB3:=Lib.hid (show Below w.heap.size w w3 from ht.below HB2.out HB2.out.size (fun b hb=>Nat.le_trans HB1.out.size ((HOL.out.lt b hb).1)))
 clear ho ht HV
 go_wp2_with fail
 go_ret
 exact ⟨A2,c2,by rw [Pl.inv_len];rfl,by rw [Pl.inv_len];exact HO.out,HB3.out⟩
end Go.Proofs.YtlgdcelgkiipaaaGreat
