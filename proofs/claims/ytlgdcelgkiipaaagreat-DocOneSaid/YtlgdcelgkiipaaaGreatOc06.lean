/-
  weave.Both's closure: one unit carried over a row that a cell holds. Conditions: the row is one of the call's own, of at most a thousand units; the cell lies in another block.
-/
import Derived.Test.YtlgdcelgkiipaaaGreatOc04
import Derived.Test.YtlgdcelgkiipaaaGreatOc05
set_option maxRecDepth 100000
set_option linter.unusedVariables false
namespace Go.Proofs.YtlgdcelgkiipaaaGreat
open Go.RowKit
open Pl (Un)
theorem getD_of_get {l:List Un} {i:Nat} (h:i<l.length):l[i]?=some (l.getD i default):=by
 rw [List.getD_eq_getElem?_getD,List.getElem?_eq_getElem h];rfl
theorem OwnU.sets {w:World} {base g n c:Nat} {l:List Un} (h:OwnU w base (.slice (some ⟨g,0,none⟩) n c) l) {i:Nat} (hi:i<n) (u:Un) :
  OwnU (((((w.setCell ⟨g,i * 5,none⟩ (.int .i64 u.k)).setCell ⟨g,i * 5 + 1,none⟩ (.int .i64 u.p)).setCell ⟨g,i * 5 + 2,none⟩ (.int .i32 u.c)).setCell ⟨g,i * 5 + 3,none⟩ (.int .u32 u.x)).setCell ⟨g,i * 5 + 4,none⟩ (.int .u64 u.y)) base (.slice (some ⟨g,0,none⟩) n c) (l.set i u):=by
 have hl:=h.len
 have hil:i<l.length:=by omega
 have hx:=getD_of_get hil
 obtain ⟨x,hxe⟩ : ∃ x,x=l.getD i default:=⟨_,rfl⟩
 rw [← hxe] at hx
 have set_at:∀ y:Un,(l.set i y)[i]?=some y:=fun y=>by rw [List.getElem?_set_self hil]
 have h0:=(OwnR.set_ encU_len h i 0 (.int .i64 u.k) (by decide) x ⟨u.k,x.p,x.c,x.x,x.y⟩ hx rfl).1
 have h1:=(OwnR.set_ encU_len h0 i 1 (.int .i64 u.p) (by decide) _ ⟨u.k,u.p,x.c,x.x,x.y⟩ (set_at _) rfl).1
 rw [List.set_set] at h1
 have h2:=(OwnR.set_ encU_len h1 i 2 (.int .i32 u.c) (by decide) _ ⟨u.k,u.p,u.c,x.x,x.y⟩ (set_at _) rfl).1
 rw [List.set_set] at h2
 have h3:=(OwnR.set_ encU_len h2 i 3 (.int .u32 u.x) (by decide) _ ⟨u.k,u.p,u.c,u.x,x.y⟩ (set_at _) rfl).1
 rw [List.set_set] at h3
 have h4:=(OwnR.set_ encU_len h3 i 4 (.int .u64 u.y) (by decide) _ ⟨u.k,u.p,u.c,u.x,u.y⟩ (set_at _) rfl).1
 rw [List.set_set] at h4
 exact h4
theorem tn_five {T:Nat→Prop} {w w':World} (h:Tn T w w') {g i:Nat} (hg:w.heap.size≤g∨T g) (v0 v1 v2 v3 v4:Value):Tn T w (((((w'.setCell ⟨g,i,none⟩ v0).setCell ⟨g,i + 1,none⟩ v1).setCell ⟨g,i + 2,none⟩ v2).setCell ⟨g,i + 3,none⟩ v3).setCell ⟨g,i + 4,none⟩ v4) :=
 ((((h.set_ (p:=⟨g,i,none⟩) hg v0).set_ (p:=⟨g,i + 1,none⟩) hg v1).set_ (p:=⟨g,i + 2,none⟩) hg v2).set_ (p:=⟨g,i + 3,none⟩) hg v3).set_ (p:=⟨g,i + 4,none⟩) hg v4
theorem OwnU.far {w:World} {base g i n c:Nat} {A:Option Addr} {l:List Un} (h:OwnU w base (.slice A n c) l) (hg:∀ k,Value.ownBlock (.slice A n c)=some k→k≠g) (v0 v1 v2 v3 v4:Value):OwnU (((((w.setCell ⟨g,i,none⟩ v0).setCell ⟨g,i + 1,none⟩ v1).setCell ⟨g,i + 2,none⟩ v2).setCell ⟨g,i + 3,none⟩ v3).setCell ⟨g,i + 4,none⟩ v4) base (.slice A n c) l :=
 OwnR.tn (T:=fun b=>b=g) h (tn_five (T:=fun b=>b=g) (Tn.refl _ w) (Or.inr rfl) v0 v1 v2 v3 v4) (fun k hk=>hg k hk)
theorem UAt.far5 {w:World} {b g i:Nat} {k p c x y:Int} (h:UAt w b k p c x y) (hg:b≠g) (v0 v1 v2 v3 v4:Value):UAt (((((w.setCell ⟨g,i,none⟩ v0).setCell ⟨g,i + 1,none⟩ v1).setCell ⟨g,i + 2,none⟩ v2).setCell ⟨g,i + 3,none⟩ v3).setCell ⟨g,i + 4,none⟩ v4) b k p c x y :=
 ((((h.far (q:=⟨g,i,none⟩) hg v0).far (q:=⟨g,i + 1,none⟩) hg v1).far (q:=⟨g,i + 2,none⟩) hg v2).far (q:=⟨g,i + 3,none⟩) hg v3).far (q:=⟨g,i + 4,none⟩) hg v4
def InCell (w:World) (pb:Nat) (v:Value):Prop:=w.heap[pb]?=some (.cells #[v] 29 (0,0))
theorem InCell.cell {w:World} {pb:Nat} {v:Value} (h:InCell w pb v):w.cell? ⟨pb,0,none⟩=some v:=cell0 (r:=[]) h
theorem InCell.lt {w:World} {pb:Nat} {v:Value} (h:InCell w pb v):pb<w.heap.size:=lt_of_block h
theorem InCell.tn {T:Nat→Prop} {w w':World} {pb:Nat} {v:Value} (h:InCell w pb v) (ht:Tn T w w') (hT:¬ T pb):InCell w' pb v:=ht.old h hT
theorem UAt.tn {T:Nat→Prop} {w w':World} {b:Nat} {k p c x y:Int} (h:UAt w b k p c x y) (ht:Tn T w w') (hT:¬ T b):UAt w' b k p c x y:=ht.old h hT
theorem list_at {a b:List Un} {n:Nat} (h:a.length=n) (j:Nat) (hj:n=j):(a ++ b.drop j).getD j default=b.getD j default:=by
 rw [List.getD_eq_getElem?_getD,List.getD_eq_getElem?_getD,List.getElem?_append_right (by omega),List.getElem?_drop,show j + (j - a.length)=j by omega]
theorem list_set {a b:List Un} {j:Nat} (h:a.length=j) (hj:j<b.length) (u:Un):(a ++ b.drop j).set j u=(a ++ [u]) ++ b.drop (j + 1):=by
 rw [List.set_append_right _ _ (by omega),show j - a.length=0 by omega,List.drop_eq_getElem_cons hj,List.set_cons_zero,List.append_assoc]
 rfl
def CaS (wr:World) (xb base:Nat) (V:Value) (x x':Un) (row row':List Un) (L:Nat→Bool) (w:World):Prop :=
 (L 8=false→UAt w xb x.k x.p x.c x.x x.y)∧(L 8=true→UAt w xb x'.k x'.p x'.c x'.x x'.y∧L 2=true∧L 6=true)∧(L 10=false→OwnU w base V row)∧(L 10=true→OwnU w base V row')∧Tn (fun b=>b=xb∨V.ownBlock=some b) wr w
def PR0 (_:Nat) (_ _:World):Prop:=True
section
variable {wr w w':World} {xb base i:Nat} {V:Value} {x x':Un} {row row':List Un} {L:Nat→Bool}
theorem CaS.tn (h:CaS wr xb base V x x' row row' L w):Tn (fun b=>b=xb∨V.ownBlock=some b) wr w:=h.2.2.2.2
theorem CaS.next (h:CaS wr xb base V x x' row row' L w) (h8:i≠8) (h10:i≠10) (hb:Below w.heap.size w w'):CaS wr xb base V x x' row row' (Rq.up L i) w':=by
 have e8:Rq.up L i 8=L 8:=by simp [Rq.up,h8]
 have e10:Rq.up L i 10=L 10:=by simp [Rq.up,h10]
 obtain ⟨g1,g2,g3,g4,g5⟩:=h
 unfold CaS
 rw [e8,e10]
 refine ⟨fun h=>(g1 h).then_ hb,fun h=>⟨(g2 h).1.then_ hb,?_,?_⟩,fun h=>OwnR.then_ (g3 h) hb,fun h=>OwnR.then_ (g4 h) hb,g5.trans (Tn.of (fun _=>False) hb) (fun _ _ h=>h.elim)⟩
 ·simp [Rq.up,(g2 h).2.1]
 ·simp [Rq.up,(g2 h).2.2]
theorem CaS.stay (h:CaS wr xb base V x x' row row' L w) (h8:i≠8) (h10:i≠10):CaS wr xb base V x x' row row' (Rq.up L i) w:=h.next h8 h10 (Below.refl _ _)
theorem CaS.old2 (h:CaS wr xb base V x x' row row' L w) (hL:L 2=false):UAt w xb x.k x.p x.c x.x x.y:=by
 refine h.1 ?_
 cases e:L 8 with
 | false=>rfl
 | true=>have:=(h.2.1 e).2.1;rw [hL] at this;cases this
theorem CaS.old6 (h:CaS wr xb base V x x' row row' L w) (hL:L 6=false):UAt w xb x.k x.p x.c x.x x.y:=by
 refine h.1 ?_
 cases e:L 8 with
 | false=>rfl
 | true=>have:=(h.2.1 e).2.2;rw [hL] at this;cases this
theorem CaS.laid8 {m c:Nat} {A:Option Addr} (h:CaS wr xb base (.slice A m c) x x' row row' L w) (hL:L 8=false) (h2:L 2=true) (h6:L 6=true) (hne:∀ k,Value.ownBlock (.slice A m c)=some k→k≠xb) :
  CaS wr xb base (.slice A m c) x x' row row' (Rq.up L 8) (((((w.setCell ⟨xb,0,none⟩ (.int .i64 x'.k)).setCell ⟨xb,1,none⟩ (.int .i64 x'.p)).setCell ⟨xb,2,none⟩ (.int .i32 x'.c)).setCell ⟨xb,3,none⟩ (.int .u32 x'.x)).setCell ⟨xb,4,none⟩ (.int .u64 x'.y)):=by
 obtain ⟨g1,g2,g3,g4,g5⟩:=h
 have e10:Rq.up L 8 10=L 10:=by simp [Rq.up]
 refine ⟨(fun e=>by simp [Rq.up] at e),fun _=>⟨(g1 hL).sets _ _ _ _ _,by simp [Rq.up,h2],by simp [Rq.up,h6]⟩,?_,?_,?_⟩
 ·rw [e10];exact fun h=>OwnU.far (i:=0) (g3 h) hne _ _ _ _ _
 ·rw [e10];exact fun h=>OwnU.far (i:=0) (g4 h) hne _ _ _ _ _
 ·exact tn_five (i:=0) g5 (Or.inr (Or.inl rfl)) _ _ _ _ _
theorem CaS.laid10 {m c g j:Nat} {y':Un} (h:CaS wr xb base (.slice (some ⟨g,0,none⟩) m c) x x' row row' L w) (hL:L 10=false) (h8:L 8=true) (hne:g≠xb) (hj:j<m) (hr:row'=row.set j y') :
  CaS wr xb base (.slice (some ⟨g,0,none⟩) m c) x x' row row' (Rq.up L 10) (((((w.setCell ⟨g,j * 5,none⟩ (.int .i64 y'.k)).setCell ⟨g,j * 5 + 1,none⟩ (.int .i64 y'.p)).setCell ⟨g,j * 5 + 2,none⟩ (.int .i32 y'.c)).setCell ⟨g,j * 5 + 3,none⟩ (.int .u32 y'.x)).setCell ⟨g,j * 5 + 4,none⟩ (.int .u64 y'.y)):=by
 obtain ⟨g1,g2,g3,g4,g5⟩:=h
 have e8:Rq.up L 10 8=L 8:=by simp [Rq.up]
 refine ⟨(fun e=>by rw [e8,h8] at e;cases e),fun _=>⟨(g2 h8).1.far5 (Ne.symm hne) _ _ _ _ _,by simp [Rq.up,(g2 h8).2.1],by simp [Rq.up,(g2 h8).2.2]⟩,(fun e=>by simp [Rq.up] at e),fun _=>?_,?_⟩
 ·rw [hr];exact OwnU.sets (g3 hL) hj y'
 ·exact tn_five g5 (Or.inr (Or.inr rfl)) _ _ _ _ _
end
def CaR (w:World) (base:Nat) (V:Value) (l:List Un) (x:Un) (i:Value) (wr:World):Prop :=
 ∃ j:Nat,i=.int .i64 (j:Int)∧j≤l.length∧(∃ u,u=(Pl.thru x (l.take j)).1∧UAt wr w.heap.size u.k u.p u.c u.x u.y)∧UAt wr (w.heap.size + 1) 0 0 0 0 0∧OwnU wr base V ((Pl.thru x (l.take j)).2 ++ l.drop j)∧Tn (fun b=>V.ownBlock=some b) w wr
theorem thru_len (x:Un) (l:List Un):(Pl.thru x l).2.length=l.length:=Pl.len_thru x l
set_option maxHeartbeats 1000000 in
theorem carry_any (x:Un) (w:World) (base pb:Nat) (A:Option Addr) (m c:Nat) (l:List Un) (hpb:InCell w pb (.slice A m c)) (hO:OwnU w base (.slice A m c) l) (hne:∀ g,Value.ownBlock (.slice A m c)=some g→g≠pb) (hm:m≤1000) :
  Calls Tryz.prog 213 #[uval x,.pointer (some ⟨pb,0,none⟩)] w fun e w'=>e=.returned (uval (Pl.thru x l).1)∧OwnU w' base (.slice A m c) (Pl.thru x l).2∧Tn (fun b=>Value.ownBlock (.slice A m c)=some b) w w':=by
 have HML:=Lib.hid hO.len
 have HPB:=Lib.hid hpb
 have HNE:=Lib.hid hne
 have HOW:=Lib.hid hO.lt
 have hpl:=hpb.lt
 obtain ⟨w2,hw2⟩ : ∃ w2,w2=(w.alloc (.cells #[.int .i64 x.k,.int .i64 x.p,.int .i32 x.c,.int .u32 x.x,.int .u64 x.y] 47)).alloc (.cells #[.int .i64 0,.int .i64 0,.int .i32 0,.int .u32 0,.int .u64 0] 47):=⟨_,rfl⟩
 have hb2:Below w.heap.size w w2:=by rw [hw2];exact below_alloc (below_box _ _) _
 have HR:=Lib.hid (show CaR w base (.slice A m c) l x (.int .i64 ((0:Nat):Int)) w2 from by
  refine ⟨0,rfl,Nat.zero_le _,⟨x,rfl,?_⟩,?_,?_,Tn.of _ hb2⟩
  ·rw [hw2];exact (uat_new w x.k x.p x.c x.x x.y).alloc _
  ·rw [hw2];exact heap_new (by simp)
  ·show OwnU w2 base (.slice A m c) (([]:List Un) ++ l.drop 0)
   rw [List.nil_append,List.drop_zero]
   exact OwnR.then_ hO hb2)
 have hcp:w2.cell? ⟨pb,0,none⟩=some (.slice A m c):=(hpb.tn (Tn.of (fun _=>False) hb2) (fun h=>h)).cell
 have HCP:=Lib.hid hcp
 have HW2:=Lib.hid hw2
 obtain ⟨k,p,ch,x0,y0⟩:=x
 simp only at hw2
 unfold uval
 simp only
 rw [hw2] at hcp
 clear hpb hO hne hb2 hw2
 go_enter Tryz.func213,Tryz.ntmps213
 go_wp2_with fail
 rw [show ((w.alloc (.cells #[.int .i64 k,.int .i64 p,.int .i32 ch,.int .u32 x0,.int .u64 y0] 47)).alloc (.cells #[.int .i64 0,.int .i64 0,.int .i32 0,.int .u32 0,.int .u64 0] 47))=w2 from HW2.out.symm]
 clear hcp
 go_loopw [8] (fun i wr=>CaR w base (.slice A m c) l ⟨k,p,ch,x0,y0⟩ i wr) (fun i _=>m - (intOf i).toNat)
 case atStart=>exact HR.out
 case round =>
  obtain ⟨j,rfl,hj,⟨X,hX,hxa⟩,hra,ho,ht⟩:=hrel
  have HT:=Lib.hid ht
  have HX:=Lib.hid hX
  have HXA:=Lib.hid hxa
  have HRA:=Lib.hid hra
  have HO:=Lib.hid ho
  by_cases hlt:j<m
  ·obtain ⟨g,rfl,hbg,hgw⟩:=OwnR.pos_ ho (by omega)
   obtain ⟨c0,c1,c2,c3,c4,_⟩:=OwnU.cells ho hlt
   have hjl:j<l.length:=by have:=HML.out;omega
   rw [list_at (show _=j by rw [thru_len,List.length_take];omega) j rfl] at c0 c1 c2 c3 c4
   have hcp2:wr.cell? ⟨pb,0,none⟩=some (.slice (some ⟨g,0,none⟩) m c):=(HPB.out.tn HT.out (fun h=>HNE.out _ h rfl)).cell
   obtain ⟨⟨k1,p1,ch1,x1,y1⟩,hy⟩ : ∃ y,y=l.getD j default:=⟨_,rfl⟩
   rw [← hy] at c0 c1 c2 c3 c4
   simp only at c0 c1 c2 c3 c4
   have HY:=Lib.hid hy
   have z0:(0:Int)≤(j:Int):=by omega
   have z1:(j:Int)<(m:Int):=by omega
   have hxlt:=HXA.out.lt
   have HGX:=Lib.hid (show g≠w.heap.size from fun e=>by have:=(HOW.out g rfl).2;omega)
   have HNX:=Lib.hid (show ∀ k,Value.ownBlock (.slice (some ⟨g,0,none⟩) m c)=some k→k≠w.heap.size from fun k hk=>by cases hk;exact HGX.out)
   obtain ⟨kx,px,cx,xx,yx⟩:=X
   obtain ⟨⟨ka,pa,ca,xa,ya⟩,ha⟩ : ∃ r,r=Pl.over ⟨kx,px,cx,xx,yx⟩ ⟨k1,p1,ch1,x1,y1⟩:=⟨_,rfl⟩
   obtain ⟨⟨kb,pb2,cb,xb,yb⟩,hbb⟩ : ∃ r,r=Pl.over ⟨k1,p1,ch1,x1,y1⟩ ⟨kx,px,cx,xx,yx⟩:=⟨_,rfl⟩
   have HO1:=fun w1=>Lib.hid (over_any ⟨kx,px,cx,xx,yx⟩ ⟨k1,p1,ch1,x1,y1⟩ w1)
   have HO2:=fun w1=>Lib.hid (over_any ⟨k1,p1,ch1,x1,y1⟩ ⟨kx,px,cx,xx,yx⟩ w1)
   rw [← ha] at HO1
   rw [← hbb] at HO2
   have HAE:=Lib.hid ha
   have HBE:=Lib.hid hbb
   unfold uval at HO1 HO2
   simp only at HO1 HO2
   obtain ⟨W5,hW5⟩ : ∃ W5,W5=wr.alloc (.cells #[.int .i64 k1,.int .i64 p1,.int .i32 ch1,.int .u32 x1,.int .u64 y1] 47):=⟨_,rfl⟩
   have hb5:Below wr.heap.size wr W5:=by rw [hW5];exact below_box _ _
   have HY5:=Lib.hid (show UAt W5 wr.heap.size k1 p1 ch1 x1 y1 by rw [hW5];exact uat_new _ _ _ _ _ _)
   have HPB5:=Lib.hid ((HPB.out.tn HT.out (fun h=>HNE.out _ h rfl)).tn (Tn.of (fun _=>False) hb5) (fun h=>h))
   have HNB:=Lib.hid (show ¬ (pb=w.heap.size∨Value.ownBlock (.slice (some ⟨g,0,none⟩) m c)=some pb) from fun h=>h.elim (fun h=>by omega) (fun h=>HNE.out _ h rfl))
   have HNY:=Lib.hid (show ¬ (wr.heap.size=w.heap.size∨Value.ownBlock (.slice (some ⟨g,0,none⟩) m c)=some wr.heap.size) from fun h=>h.elim (fun h=>by omega) (fun h=>by have:g=wr.heap.size:=Option.some.inj h;omega))
   have hS0:CaS W5 w.heap.size base (.slice (some ⟨g,0,none⟩) m c) ⟨kx,px,cx,xx,yx⟩ ⟨ka,pa,ca,xa,ya⟩ ((Pl.thru ⟨k,p,ch,x0,y0⟩ (l.take j)).2 ++ l.drop j) (((Pl.thru ⟨k,p,ch,x0,y0⟩ (l.take j)).2 ++ l.drop j).set j ⟨kb,pb2,cb,xb,yb⟩) (fun _=>false) W5.drew :=
    ⟨fun _=>HXA.out.then_ (below_drawn hb5),(fun h=>by cases h),fun _=>OwnR.then_ HO.out (below_drawn hb5),(fun h=>by cases h),(Tn.refl _ _).drew⟩
   have HS0:=Lib.hid hS0
   have HRA5:=Lib.hid (UAt.then_ HRA.out hb5)
   have HNR:=Lib.hid (show ¬ (w.heap.size + 1=w.heap.size∨Value.ownBlock (.slice (some ⟨g,0,none⟩) m c)=some (w.heap.size + 1)) from fun h=>h.elim (fun h=>by omega) (fun h=>by have:=(HOW.out _ h).2;omega))
   have HNX1:=Lib.hid (show (⟨ka,pa,ca,xa,ya⟩ : Un)=(Pl.thru ⟨k,p,ch,x0,y0⟩ (l.take (j + 1))).1 from by
    rw [(Pl.thru_take _ l j _ (getD_of_get hjl)).1,← HX.out,← HY.out,ha])
   have HNX2:=Lib.hid (show ((Pl.thru ⟨k,p,ch,x0,y0⟩ (l.take j)).2 ++ l.drop j).set j ⟨kb,pb2,cb,xb,yb⟩=(Pl.thru ⟨k,p,ch,x0,y0⟩ (l.take (j + 1))).2 ++ l.drop (j + 1) from by
    rw [list_set (by rw [thru_len,List.length_take];omega) hjl,(Pl.thru_take _ l j _ (getD_of_get hjl)).2,← HX.out,← HY.out,hbb])
   have HT5:=Lib.hid (HT.out.trans (Tn.of (fun _=>False) hb5) (fun _ _ h=>h.elim))
   have HW5:=Lib.hid hW5
   clear ht hX hxa hra ho hy hxlt ha hbb hS0 hb5 hW5
   go_wp2_with fail
   rw [show wr.alloc (.cells #[.int .i64 k1,.int .i64 p1,.int .i32 ch1,.int .u32 x1,.int .u64 y1] 47)=W5 from HW5.out.symm]
   clear c0 c1 c2 c3 c4 hcp2
   refine Rq.wp_region_inv (CaS W5 w.heap.size base (.slice (some ⟨g,0,none⟩) m c) ⟨kx,px,cx,xx,yx⟩ ⟨ka,pa,ca,xa,ya⟩ ((Pl.thru ⟨k,p,ch,x0,y0⟩ (l.take j)).2 ++ l.drop j) (((Pl.thru ⟨k,p,ch,x0,y0⟩ (l.take j)).2 ++ l.drop j).set j ⟨kb,pb2,cb,xb,yb⟩)) PR0 (Rq.Wd.at [.is (.slice (some ⟨g,0,none⟩) m c),.is (.int .i64 (j:Int)),.is (.agg #[.int .i64 kx,.int .i64 px,.int .i32 cx,.int .u32 xx,.int .u64 yx]),.is (.agg #[.int .i64 k1,.int .i64 p1,.int .i32 ch1,.int .u32 x1,.int .u64 y1]),.is (.agg #[.int .i64 ka,.int .i64 pa,.int .i32 ca,.int .u32 xa,.int .u64 ya]),.is (.agg #[.int .i64 k1,.int .i64 p1,.int .i32 ch1,.int .u32 x1,.int .u64 y1]),.is (.agg #[.int .i64 kx,.int .i64 px,.int .i32 cx,.int .u32 xx,.int .u64 yx]),.is (.agg #[.int .i64 kb,.int .i64 pb2,.int .i32 cb,.int .u32 xb,.int .u64 yb]),.any,.is (.pointer (some ⟨g,j * 5,none⟩)),.any]) (by kernel_rfl) (by kernel_rfl) (Rq.Wd.stays _ _ (fun i q hi=>(by rcases i with _ | _ | _ | _ | _ | _ | _ | _ | _ | _ | _ | i <;> simp at hi))) (HS0.out) ⟨?_,?_,?_,?_,?_,?_,?_,?_,?_,?_,?_,trivial⟩ ?_
   ·intro L a w1 hL hS hb hd
    have e1:=hb 1 (Rq.nw (by decide))
    simp [Act.eval] at e1
    exact Rq.does_pure (Rq.wanted_none rfl) (by simp [execOp,e1,(HPB5.out.tn hS.tn HNB.out).cell,go_sem]) rfl (hS.stay (by decide) (by decide)) trivial
   ·intro L a w1 hL hS hb hd
    have e4:=hb 4 (Rq.nw (by decide))
    simp [Act.eval] at e4
    exact Rq.does_pure (Rq.wanted_none rfl) (by simp [execOp,e4,go_sem]) rfl (hS.stay (by decide) (by decide)) trivial
   ·intro L a w1 hL hS hb hd
    have e2:=hb 2 (Rq.nw (by decide))
    simp [Act.eval] at e2
    exact Rq.does_pure (Rq.wanted_none rfl) (by simp [execOp,e2,(hS.old2 hL).cells,go_sem]) rfl (hS.stay (by decide) (by decide)) trivial
   ·intro L a w1 hL hS hb hd
    have e5:=hb 5 (Rq.nw (by decide))
    simp [Act.eval] at e5
    exact Rq.does_pure (Rq.wanted_none rfl) (by simp [execOp,e5,(HY5.out.tn hS.tn HNY.out).cells,go_sem]) rfl (hS.stay (by decide) (by decide)) trivial
   ·intro L a w1 hL hS hb hd
    have p15:=(hd ⟨2,.data⟩ (by simp) rfl).2 _ _ rfl rfl
    have e15:a.tmps[15]?.getD undef=(.agg #[.int .i64 kx,.int .i64 px,.int .i32 cx,.int .u32 xx,.int .u64 yx]):=Rq.slot p15
    have p16:=(hd ⟨3,.data⟩ (by simp) rfl).2 _ _ rfl rfl
    have e16:a.tmps[16]?.getD undef=(.agg #[.int .i64 k1,.int .i64 p1,.int .i32 ch1,.int .u32 x1,.int .u64 y1]):=Rq.slot p16
    refine Rq.does_call (f:=214) (args:=#[.agg #[.int .i64 kx,.int .i64 px,.int .i32 cx,.int .u32 xx,.int .u64 yx],.agg #[.int .i64 k1,.int .i64 p1,.int .i32 ch1,.int .u32 x1,.int .u64 y1]]) (Rq.wanted_none rfl) (by simp [e15,e16,go_sem]) ?_
    exact (HO1 w1).out.mono fun e w' ⟨h1,h2⟩=>⟨_,h1,rfl,hS.next (by decide) (by decide) h2,trivial⟩
   ·intro L a w1 hL hS hb hd
    have e5:=hb 5 (Rq.nw (by decide))
    simp [Act.eval] at e5
    exact Rq.does_pure (Rq.wanted_none rfl) (by simp [execOp,e5,(HY5.out.tn hS.tn HNY.out).cells,go_sem]) rfl (hS.stay (by decide) (by decide)) trivial
   ·intro L a w1 hL hS hb hd
    have e2:=hb 2 (Rq.nw (by decide))
    simp [Act.eval] at e2
    exact Rq.does_pure (Rq.wanted_none rfl) (by simp [execOp,e2,(hS.old6 hL).cells,go_sem]) rfl (hS.stay (by decide) (by decide)) trivial
   ·intro L a w1 hL hS hb hd
    have p18:=(hd ⟨5,.data⟩ (by simp) rfl).2 _ _ rfl rfl
    have e18:a.tmps[18]?.getD undef=(.agg #[.int .i64 k1,.int .i64 p1,.int .i32 ch1,.int .u32 x1,.int .u64 y1]):=Rq.slot p18
    have p19:=(hd ⟨6,.data⟩ (by simp) rfl).2 _ _ rfl rfl
    have e19:a.tmps[19]?.getD undef=(.agg #[.int .i64 kx,.int .i64 px,.int .i32 cx,.int .u32 xx,.int .u64 yx]):=Rq.slot p19
    refine Rq.does_call (f:=214) (args:=#[.agg #[.int .i64 k1,.int .i64 p1,.int .i32 ch1,.int .u32 x1,.int .u64 y1],.agg #[.int .i64 kx,.int .i64 px,.int .i32 cx,.int .u32 xx,.int .u64 yx]]) (Rq.wanted_none rfl) (by simp [e18,e19,go_sem]) ?_
    exact (HO2 w1).out.mono fun e w' ⟨h1,h2⟩=>⟨_,h1,rfl,hS.next (by decide) (by decide) h2,trivial⟩
   ·intro L a w1 hL hS hb hd
    have e2:=hb 2 (Rq.nw (by decide))
    simp [Act.eval] at e2
    have p17:=(hd ⟨4,.data⟩ (by simp) rfl).2 _ _ rfl rfl
    have e17:a.tmps[17]?.getD undef=(.agg #[.int .i64 ka,.int .i64 pa,.int .i32 ca,.int .u32 xa,.int .u64 ya]):=Rq.slot p17
    have hU:=hS.1 hL;obtain ⟨d0,d1,d2,d3,d4⟩:=hU.cells;have f2:=fun j=>hU.frozen j;have q2:=(hd ⟨2,.phase⟩ (by simp) rfl).1;have q6:=(hd ⟨6,.phase⟩ (by simp) rfl).1;exact Rq.does_skip rfl (Rq.wanted_none rfl) (by simp [execOp,e2,e17,go_sem,d0,d1,d2,d3,d4,f2]) trivial (hS.laid8 hL q2 q6 HNX.out) trivial
   ·intro L a w1 hL hS hb hd
    have p13:=(hd ⟨0,.data⟩ (by simp) rfl).2 _ _ rfl rfl
    have e13:a.tmps[13]?.getD undef=(.slice (some ⟨g,0,none⟩) m c):=Rq.slot p13
    have p14:=(hd ⟨1,.data⟩ (by simp) rfl).2 _ _ rfl rfl
    have e14:a.tmps[14]?.getD undef=(.int .i64 (j:Int)):=Rq.slot p14
    exact Rq.does_pure (Rq.wanted_none rfl) (by simp [execOp,e13,e14,z0,z1,go_sem]) rfl (hS.stay (by decide) (by decide)) trivial
   ·intro L a w1 hL hS hb hd
    have p21:=(hd ⟨9,.data⟩ (by simp) rfl).2 _ _ rfl rfl
    have e21:a.tmps[21]?.getD undef=(.pointer (some ⟨g,j * 5,none⟩)):=Rq.slot p21
    have p20:=(hd ⟨7,.data⟩ (by simp) rfl).2 _ _ rfl rfl
    have e20:a.tmps[20]?.getD undef=(.agg #[.int .i64 kb,.int .i64 pb2,.int .i32 cb,.int .u32 xb,.int .u64 yb]):=Rq.slot p20
    have hU:=hS.2.2.1 hL;have q8:=(hd ⟨8,.phase⟩ (by simp) rfl).1;obtain ⟨d0,d1,d2,d3,d4,f2⟩:=OwnU.cells hU hlt;exact Rq.does_skip rfl (Rq.wanted_none rfl) (by simp [execOp,e21,e20,go_sem,d0,d1,d2,d3,d4,f2]) trivial (hS.laid10 (y':=⟨kb,pb2,cb,xb,yb⟩) hL q8 HGX.out hlt rfl) trivial
   ·intro L v w3 hS hall hv
    have HX3:=Lib.hid (hS.2.1 (hall 8 (by decide))).1
    have hO3:=hS.2.2.2.1 (hall 10 (by decide))
    rw [HNX2.out] at hO3
    have HO3:=Lib.hid hO3
    have HT3:=Lib.hid (HT5.out.trans hS.tn (fun b hb h=>h.elim (fun h=>by omega) id))
    have HR3:=Lib.hid (HRA5.out.tn hS.tn HNR.out)
    clear hS hall hv hO3
    simp only [Rq.putAll]
    simp only [Act.put,List.setIfInBounds_toArray,List.set_cons_succ,List.set_cons_zero]
    go_wp2_with fail
    go_roundw
    case rel=>exact ⟨j + 1,by go_num,by omega,⟨_,HNX1.out,HX3.out⟩,HR3.out,HO3.out,HT3.out⟩
    case measure=>simp [intOf];omega
  ·have hjm:j=l.length:=by have:=HML.out;omega
   subst hjm
   obtain ⟨kx,px,cx,xx,yx⟩:=X
   obtain ⟨a0,a1,a2,a3,a4⟩:=hxa.cells
   obtain ⟨d0,d1,d2,d3,d4⟩:=hra.cells
   have f2:=fun j=>hra.frozen j
   simp only at a0 a1 a2 a3 a4
   rw [List.take_length,List.drop_length,List.append_nil] at ho
   rw [List.take_length] at hX
   have HO2:=Lib.hid ho
   have HX2:=Lib.hid hX
   have hne2:∀ k,Value.ownBlock (.slice A m c)=some k→k≠w.heap.size + 1:=fun k hk e=>by have:=(HOW.out k hk).2;omega
   have HNE2:=Lib.hid hne2
   clear HO HX ho hX hxa hra ht
   go_wp2_with fail
   refine bodyPost_ret (results_unit rfl (by rfl) (HRA.out.sets kx px cx xx yx)) rfl ⟨?_,OwnU.far (i:=0) HO2.out HNE2.out _ _ _ _ _,tn_five (i:=0) HT.out (Or.inl (by omega)) _ _ _ _ _⟩
   rw [← HX2.out]
   rfl
end Go.Proofs.YtlgdcelgkiipaaaGreat
