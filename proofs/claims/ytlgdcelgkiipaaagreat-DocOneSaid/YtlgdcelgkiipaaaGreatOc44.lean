/-
  Move as a whole. Conditions: those that it states.
  What layer 11's laws are given, out of what can be read as data: rows of rows of units; calls (a kind, a client, a place, a row of units); two bytes. The types' numbers are left open. Conditions: those that each states.
  What layer 13's laws are given: a row of calls, each with a row of units. Conditions: those that each states.
  A document in plain words: each call's answer beside one past (what DocOne looks at).
  A document in plain words: who reads along (what DocReads looks at): a Fetch, an Open, told beside one past; what is told is laid on.
  A document in plain words: what each call's answer says of revisions (what DocOne looks at, as the law reckons it). Conditions: those that each states.
-/
import Derived.Test.YtlgdcelgkiipaaaGreatOc43
import Derived.Test.YtlgdcelgkiipaaaGreatOc03
import Derived.Test.YtlgdcelgkiipaaaGreatOc08
import Derived.Test.YtlgdcelgkiipaaaGreatOc09
import Derived.Test.YtlgdcelgkiipaaaGreatOc13
import Derived.SizedLaws
import Derived.ChangeArms
set_option maxRecDepth 100000
set_option linter.unusedVariables false
namespace Go.Proofs.YtlgdcelgkiipaaaGreat
open Go.RowKit
open Pl (Un)
section
variable {w:World} {D m:Nat} {k:Nat→Nat} {d:Pl.Dc}
theorem at_move {d:Pl.Dc} {c t:Int} {rev:Nat} {pos:Int} (ht:¬ 1099511627776<t):d.move c rev pos t=told (if Pl.liveM (d.touched t).L c t=true then (d.touched t).moveF c rev pos t else (d.touched t,Pl.fails 36)):=by
 unfold Pl.Dc.move Pl.Dc.at_
 rw [call_told ht]
 simp only
 by_cases hl:Pl.liveM (d.touched t).L c t=true
 ·rw [if_pos hl,if_pos hl]
  refine congrArg told ?_
  generalize d.touched t=z
  unfold Pl.Dc.moveF
  by_cases h1:(Pl.place z.fr z.P.length 0 rev).2≠0
  ·rw [if_pos h1,if_pos h1];exact if_neg h1
  ·rw [if_neg h1,if_neg h1]
   by_cases h2:pos<0∨z.long rev<pos
   ·rw [if_pos h2,if_pos h2];exact if_neg (show ¬ (30:Int)=0 by decide)
   ·rw [if_neg h2,if_neg h2];exact if_pos rfl
 ·rw [if_neg hl,if_neg hl]
set_option maxHeartbeats 1000000 in
theorem move_any (h:DocAt w D k d m) {c:Int} (hc:0≤c∧c<4294967296) (rev:Nat) (hrev:rev≤18446744073709551615) (pos:Int) (now:Int) (h0:0≤now) (hnow:now≤1099511627776) (ht:d.t + 1<18446744073709551616) :
  Calls Tryz.prog 35 #[.pointer (some ⟨D,0,none⟩),.int .u32 c,.int .u64 (rev:Int),.int .i64 pos,.int .u64 now] w (DocP w D k m (d.move c rev pos now)):=by
 obtain ⟨⟨pa,tx,ls,mk,h⟩,hok⟩:=h
 obtain ⟨X,hX⟩ : ∃ X,X=(d.touched now).moveF c rev pos now:=⟨_,rfl⟩
 obtain ⟨X2,hX2⟩ : ∃ X2,X2=if Pl.liveM (d.touched now).L c now=true then X else (d.touched now,Pl.fails 36):=⟨_,rfl⟩
 have hE:d.move c rev pos now=told X2:=by rw [hX2,hX];exact at_move (by omega)
 have hok2:=Pl.Dc.ok_moved hok (c:=c) (t:=now) h0 (by omega) rev pos
 rw [hE] at hok2 ⊢
 obtain ⟨R,hR⟩ : ∃ R,R=DocP w D k m (told X2):=⟨_,rfl⟩
 rw [← hR]
 have HR:=Lib.hid hR
 have HH:=Lib.hid h
 have HOK:=Lib.hid hok2
 have HO:=Lib.hid hok
 clear h hR hok2 hE hok
 go_enter Tryz.func35,Tryz.ntmps35
 go_wp2_with fail
 obtain ⟨os,hos⟩ : ∃ os:List Obj,os=[.cells #[.pointer (some ⟨D,0,none⟩)] 23,.cells #[.int .u32 c] 28,.cells #[.int .u64 (rev:Int)] 27,.cells #[.int .i64 pos] 3,.cells #[.int .u64 now] 27,.cells #[.int .i64 0,.int .u32 0,.int .u64 0,.bool false,.slice none 0 0,.slice none 0 0,.slice none 0 0] 37]:=⟨_,rfl⟩
 have hW:allocs w os=((((((w.alloc (.cells #[.pointer (some ⟨D,0,none⟩)] 23)).alloc (.cells #[.int .u32 c] 28)).alloc (.cells #[.int .u64 (rev:Int)] 27)).alloc (.cells #[.int .i64 pos] 3)).alloc (.cells #[.int .u64 now] 27)).alloc (.cells #[.int .i64 0,.int .u32 0,.int .u64 0,.bool false,.slice none 0 0,.slice none 0 0,.slice none 0 0] 37)):=by rw [hos];rfl
 rw [← hW]
 have hB:=allocs_below os w
 have e0:=allocs_at os w 0 _ (by rw [hos];rfl)
 have e1:=allocs_at os w 1 _ (by rw [hos];rfl)
 have e2:=allocs_at os w 2 _ (by rw [hos];rfl)
 have e3:=allocs_at os w 3 _ (by rw [hos];rfl)
 have e4:=allocs_at os w 4 _ (by rw [hos];rfl)
 have e5:=allocs_at os w 5 _ (by rw [hos];rfl)
 clear hW hos
 generalize allocs w os=W0 at hB e0 e1 e2 e3 e4 e5 ⊢
 clear os
 have hlt:=HH.out.lt
 have hz:=fun b (hb:w.heap.size≤b)=>box_zero k b hlt hb
 have hs:=lt_of_block e5
 have hX9:∀ b,b=w.heap.size + 1 + 1 + 1→k b=0∧b<W0.heap.size:=fun b e=>by rw [e];exact ⟨hz _ (by omega),by omega⟩
 have h9:paint_ k (fun b=>b=w.heap.size + 1 + 1 + 1) 9 (w.heap.size + 1 + 1 + 1)=9:=paint_on (X:=fun b=>b=w.heap.size + 1 + 1 + 1) rfl
 have hC:=at_any ((HH.out.then_ hB).nine (X:=fun b=>b=w.heap.size + 1 + 1 + 1) hX9) now h0 hnow ht hc 102 #[.pointer (some ⟨w.heap.size,0,none⟩),.pointer (some ⟨w.heap.size + 1 + 1,0,none⟩),.pointer (some ⟨w.heap.size + 1 + 1 + 1,0,none⟩),.pointer (some ⟨w.heap.size + 1,0,none⟩),.pointer (some ⟨w.heap.size + 1 + 1 + 1 + 1,0,none⟩)] X
  (fun args w=>by simp [go_sem]) (fun he=>by
   rw [hX] at he ⊢
   unfold Pl.Dc.moveF at he ⊢
   by_cases h1:(Pl.place (d.touched now).fr (d.touched now).P.length 0 rev).2≠0
   ·rw [if_pos h1];rfl
   ·by_cases h2:pos<0∨(d.touched now).long rev<pos
    ·rw [if_neg h1,if_pos h2];rfl
    ·rw [if_neg h1,if_neg h2] at he;exact absurd rfl he) (fun w1 al h1 h2 h3 h4 hl h5=>by
   rw [hX]
   exact move1_any h1 (Pl.Dc.ok_touched HO.out now) hc rev hrev pos now h0 hnow hl h4 ((paint_off (fun e=>by have e2:al=_:=e;omega)).trans (hz al (Nat.le_trans hB.size h3))) _ _ _ _ _ (h2.old e0 (paint_is (hz _ (by omega)) (fun e=>by have e2:_=_:=e;omega))) (h2.old e2 (paint_is (hz _ (by omega)) (fun e=>by have e2:_=_:=e;omega))) (h5.old e3 (by unfold Hot;rw [h9];decide)) (h2.old e1 (paint_is (hz _ (by omega)) (fun e=>by have e2:_=_:=e;omega))) (h2.old e4 (paint_is (hz _ (by omega)) (fun e=>by have e2:_=_:=e;omega))) ⟨(paint_is (hz _ (by omega)) (fun e=>by have e2:_=_:=e;omega)),(paint_is (hz _ (by omega)) (fun e=>by have e2:_=_:=e;omega)),h9,(paint_is (hz _ (by omega)) (fun e=>by have e2:_=_:=e;omega)),(paint_is (hz _ (by omega)) (fun e=>by have e2:_=_:=e;omega))⟩)
 rw [← hX2] at hC
 have HC:=Lib.hid hC
 have HE:=Lib.hid (And.intro hB (And.intro hlt (show AnAt W0 (w.heap.size + 5) 0 0 false none 0 0 none 0 0 none 0 0 from e5)))
 clear hC hB e0 e1 e2 e3 e4 e5 hlt hX hX2 hz hs hX9 h9
 refine HC.out.mono ?_
 rintro e w2 ⟨k',m',v,rfl,hd,hm,hmv,A,n,c5,A2,n2,c2,A3,n3,c3,rfl,hr⟩
 have hr4:w.heap.size + 5<W0.heap.size:=HE.out.2.2.lt
 have h4:AnAt w2 (w.heap.size + 5) 0 0 false none 0 0 none 0 0 none 0 0:=hmv.old HE.out.2.2 (paint_is (box_zero k _ HE.out.2.1 (by omega)) (fun e=>by have e2:_=_:=e;omega))
 have HD:=Lib.hid (And.intro hd (And.intro hm (And.intro hmv hr)))
 have H4:=Lib.hid h4
 have HR4:=Lib.hid hr4
 obtain ⟨d0,d1,d2,d3,d4,d5,d6⟩:=h4.cells
 have g7:=h4.frozen
 clear hd hm hmv hr h4 hr4 HC
 generalize told X2=Y at HD HR HOK ⊢
 obtain ⟨dq,⟨e7,rev7,wh7,tx7,op7,se7⟩⟩:=Y
 simp only at HD
 unfold aval
 simp only
 rw [show w.heap.size + 5=w.heap.size + 1 + 1 + 1 + 1 + 1 from rfl] at *
 go_wp2_with fail
 refine bodyPost_ret (results_an rfl (by rfl) (H4.out.sets _ _ _ A n c5 A2 n2 c2 A3 n3 c3)) rfl ?_
 rw [HR.out]
 exact DocR.p (DocR.end9 (X:=fun b=>b=w.heap.size + 1 + 1 + 1) HE.out.2.1 HE.out.1 (by omega) HR4.out (fun b e=>by have e2:b=_:=e;omega) (fun e=>by have e2:_=_:=e;omega) HD.out.1 HD.out.2.1 HD.out.2.2.1 HD.out.2.2.2 _ _ _ _ _ _ _) HOK.out
end
open Go.RowKit Go.ChangeShapes Go.WideShapes
open Pl (Un)
structure SlU where
 A:Option Addr
 n:Nat
 c:Nat
 l:List Un
instance:Inhabited SlU:=⟨⟨none,0,0,[]⟩⟩
structure ActM where
 k:Int
 x:Int
 p:Int
 A:Option Addr
 n:Nat
 c:Nat
 l:List Un
instance:Inhabited ActM:=⟨⟨0,0,0,none,0,0,[]⟩⟩
section
variable {H:Type} {enc:TypeId × Value→H} {W:World}
theorem row_cell {tU:TypeId} (hU:Tryz.prog.underlying tU=some (.slice 47)) {v:Value} {fuel:Nat} {z:DataW H × List MemPlace} (h:DataW.trod enc Tryz.prog W 0 (fun _=>true) true fuel tU [v]=some z):∃ A n c l,v=.slice A n c∧Units W W.heap.size A n c l:=by
 rcases Deep.open_slice hU h with ⟨h0,_⟩ | ⟨a,len,cap,m,n',D,Pl',hcs,_,hl,hm,hmm,hz,_⟩
 ·have hv:=(List.cons.inj h0).1
  subst hv
  obtain ⟨l,hl⟩:=open_units_of hU ⟨fuel,h⟩
  exact ⟨none,0,0,l,rfl,hl⟩
 ·have hv:=(List.cons.inj hcs).1
  subst hv
  obtain ⟨l,hl2⟩:=open_units_of hU ⟨fuel,h⟩
  exact ⟨_,_,_,l,rfl,hl2⟩
theorem open_rows_k {α:Type} [Inhabited α] {en:α→List Value} {k:Nat} (hk:∀ x,(en x).length=k) (h0:0<k) (Q:α→Prop) {t tE:TypeId} (ht:Tryz.prog.underlying t=some (.slice tE)) (cE:Tryz.prog.cellsOf tE=k)
  (hE:∀ fuel cs z,cs.length=k→DataW.trod enc Tryz.prog W 0 (fun _=>true) true fuel tE cs=some z→∃ x,cs=en x∧Q x) {A0:Option Addr} {n c:Nat} {d:DataW H} {p:List MemPlace} (h:DataW.Trod enc Tryz.prog W 0 (fun _=>true) true t (.slice A0 n c) d p) :
  ∃ L,Rws en W W.heap.size A0 n c L∧∀ o ∈ L,Q o:=by
 obtain ⟨fuel,hf⟩:=h
 rcases Deep.open_slice ht hf with ⟨h1,_⟩ | ⟨a,len,cap,m,n',D,Pl',hcs,_,hl,hm,hmm,hz,hi⟩
 ·have hv:=(List.cons.inj h1).1
  injection hv with e1 e2 e3
  subst e1 e2 e3
  exact ⟨[],Rws.none_ _ _ _,fun o ho=>by cases ho⟩
 ·have hv:=(List.cons.inj hcs).1
  injection hv with e1 e2 e3
  subst e1 e2 e3
  simp only [if_true] at hmm
  obtain ⟨b,off,spot⟩:=a
  have hspot:0<n→spot=none:=fun hn=>by
   obtain ⟨cs',hc,_⟩:=hi 0 (by omega)
   rw [cE] at hc
   obtain ⟨_,hcl,hat⟩:=World.cells?_some hc
   have h2:=hat 0 (by omega)
   rw [List.getElem?_eq_getElem (by omega)] at h2
   simpa [Addr.add] using World.cell?_spot h2
  obtain ⟨L,hl1,hl2⟩:=pick_list n (fun i (x:α)=>(∀ j u,j<k→(en x)[j]?=some u→W.cell? ⟨b,off + (i * k + j),none⟩=some u)∧b<W.heap.size∧Q x) (fun i hin=>by
   obtain ⟨cs',hc,ht'⟩:=hi i (by omega)
   rw [cE] at hc
   obtain ⟨_,hcl,hat⟩:=World.cells?_some hc
   rw [hspot (by omega)] at hat
   obtain ⟨x,hx,hq⟩:=hE _ cs' _ hcl ht'
   subst hx
   have hat':∀ j v,j<k→(en x)[j]?=some v→W.cell? ⟨b,off + (i * k + j),none⟩=some v:=fun j v hj hv=>by
    have h2:=hat j hj
    rw [Go.Deep.add_add,Addr.add_lit] at h2
    rw [h2]
    exact hv
   refine ⟨x,hat',?_,hq⟩
   have hj:(en x)[0]?=some ((en x)[0]'(by rw [hk];exact h0)):=List.getElem?_eq_getElem _
   exact World.block_lt_of_cell? W _ (hat' 0 _ h0 hj))
  have hA:0<n→(some ⟨b,off,spot⟩ : Option Addr)=some ⟨b,off,none⟩:=fun h=>by rw [hspot h]
  have hR:=Rws.of_cells (enc:=en) (k:=k) hk h0 (w:=W) (B:=W.heap.size) (g:=b) (o:=off) hl1 hl hm (fun h=>(hl2 0 h).2.1) (fun i hi=>(hl2 i hi).1)
  have hR2:Rws en W W.heap.size (some ⟨b,off,spot⟩) n c L:=⟨hR.1,hR.2.1,hR.2.2.1,(fun e=>by cases e),fun h=>by rw [hA h];exact hR.2.2.2.2 h⟩
  exact ⟨L,hR2,fun o ho=>by
   obtain ⟨i,hi,rfl⟩:=List.getElem_of_mem ho
   have:=(hl2 i (by omega)).2.2
   rwa [List.getD_eq_getElem?_getD,List.getElem?_eq_getElem hi] at this⟩
end
open Go.RowKit Go.ChangeShapes Go.WideShapes
open Pl (Un)
structure ActD where
 k:Int
 x:Int
 y:Int
 r:Nat
 p:Int
 A:Option Addr
 n:Nat
 c:Nat
 l:List Un
 raw:Bool
 t:Nat
instance:Inhabited ActD:=⟨⟨0,0,0,0,0,none,0,0,[],false,0⟩⟩
def encD (a:ActD):List Value:=[.int .i64 a.k,.int .u32 a.x,.int .u64 a.y,.int .u64 (a.r:Int),.int .i64 a.p,.slice a.A a.n a.c,.bool a.raw,.int .u8 (a.t:Int)]
theorem encD_len (a:ActD):(encD a).length=8:=rfl
structure ActD.Fit (a:ActD):Prop where
 k:Pl.I a.k
 x:0≤a.x∧a.x<4294967296
 y:0≤a.y∧a.y<18446744073709551616
 r:a.r≤18446744073709551615
 p:Pl.I a.p
 t:a.t<256
section
variable {H:Type} {enc:TypeId × Value→H} {W:World}
theorem open_actsd {A0:Option Addr} {n c:Nat} {d:DataW H} {p:List MemPlace} (h:DataW.Trod enc Tryz.prog W 0 (fun _=>true) true 22 (.slice A0 n c) d p) :
  ∃ L,Rws encD W W.heap.size A0 n c L∧∀ o ∈ L,Units W W.heap.size o.A o.n o.c o.l∧o.Fit:=by
 refine open_rows_k encD_len (by decide) (fun o=>Units W W.heap.size o.A o.n o.c o.l∧o.Fit) Tryz.underlying22 (by kernel_rfl) (fun fuel cs z hc hf=>?_) h
 match cs,hc,hf with
 | [a0,a1,a2,a3,a4,a5,a6,a7],_,hf =>
  obtain ⟨xs,n,_,rfl,hl,hlen,hf⟩:=DataW.trod_struct Tryz.underlying31 hf
  match xs,hlen with
  | [y0,y1,y2,y3,y4,y5,y6,y7],_ =>
   have c0:Tryz.prog.cellsOf 3=1:=by kernel_rfl
   have c1:Tryz.prog.cellsOf 28=1:=by kernel_rfl
   have c2:Tryz.prog.cellsOf 27=1:=by kernel_rfl
   have c3:Tryz.prog.cellsOf 27=1:=by kernel_rfl
   have c4:Tryz.prog.cellsOf 3=1:=by kernel_rfl
   have c5:Tryz.prog.cellsOf 29=1:=by kernel_rfl
   have c6:Tryz.prog.cellsOf 4=1:=by kernel_rfl
   have c7:Tryz.prog.cellsOf 5=1:=by kernel_rfl
   have h0:DataW.trod enc Tryz.prog W 0 (fun _=>true) true n 3 [a0]=some y0:=by simpa [c0] using hf 0 _ rfl
   have h1:DataW.trod enc Tryz.prog W 0 (fun _=>true) true n 28 [a1]=some y1:=by simpa [c1] using hf 1 _ rfl
   have h2:DataW.trod enc Tryz.prog W 0 (fun _=>true) true n 27 [a2]=some y2:=by simpa [c2] using hf 2 _ rfl
   have h3:DataW.trod enc Tryz.prog W 0 (fun _=>true) true n 27 [a3]=some y3:=by simpa [c3] using hf 3 _ rfl
   have h4:DataW.trod enc Tryz.prog W 0 (fun _=>true) true n 3 [a4]=some y4:=by simpa [c4] using hf 4 _ rfl
   have h5:DataW.trod enc Tryz.prog W 0 (fun _=>true) true n 29 [a5]=some y5:=by simpa [c5] using hf 5 _ rfl
   have h6:DataW.trod enc Tryz.prog W 0 (fun _=>true) true n 4 [a6]=some y6:=by simpa [c6] using hf 6 _ rfl
   have h7:DataW.trod enc Tryz.prog W 0 (fun _=>true) true n 5 [a7]=some y7:=by simpa [c7] using hf 7 _ rfl
   clear hf
   obtain ⟨k,g0,_,w0⟩:=DataW.trod_int Tryz.underlying3 h0
   obtain ⟨x,g1,_,w1⟩:=DataW.trod_int Tryz.underlying28 h1
   obtain ⟨y,g2,_,w2⟩:=DataW.trod_int Tryz.underlying27 h2
   obtain ⟨r,g3,_,w3⟩:=DataW.trod_int Tryz.underlying27 h3
   obtain ⟨q,g4,_,w4⟩:=DataW.trod_int Tryz.underlying3 h4
   obtain ⟨b,g6,_⟩:=DataW.trod_bool Tryz.underlying4 h6
   obtain ⟨t,g7,_,w7⟩:=DataW.trod_int Tryz.underlying5 h7
   obtain rfl:=(List.cons.inj g0).1
   obtain rfl:=(List.cons.inj g1).1
   obtain rfl:=(List.cons.inj g2).1
   obtain rfl:=(List.cons.inj g3).1
   obtain rfl:=(List.cons.inj g4).1
   obtain rfl:=(List.cons.inj g6).1
   obtain rfl:=(List.cons.inj g7).1
   have b0:=bounds_i64 w0
   have b1:=bounds_u32 w1
   have b2:=bounds_u64 w2
   have b3:=bounds_u64 w3
   have b4:=bounds_i64 w4
   have b7:=bounds_u8 w7
   obtain ⟨A,n2,c,l,rfl,hu⟩:=row_cell Tryz.underlying29 h5
   obtain ⟨r,rfl⟩ : ∃ z:Nat,r=(z:Int):=⟨r.toNat,by omega⟩
   obtain ⟨t,rfl⟩ : ∃ z:Nat,t=(z:Int):=⟨t.toNat,by omega⟩
   exact ⟨⟨k,x,y,r,q,A,n2,c,l,b,t⟩,rfl,hu,⟨Pl.I.mk (by simp only;omega),by simp only;omega,by simp only;omega,by simp only;omega,Pl.I.mk (by simp only;omega),by simp only;omega⟩⟩
end
def Pl.signed (x y:Int) (u:Un):Un:={ u with x:=x,y:=y }
def ActD.row (a:ActD):List Un:=if a.raw=true then a.l.take 300 else (a.l.take 300).map (Pl.signed a.x a.y)
def ActD.does (a:ActD) (d:Pl.Dc) (now:Int):Pl.Dc × Pl.An :=
 if a.k=0 then d.open_ a.x a.r now else if a.k=1 then d.leave_ a.x now else if a.k=2 then d.edit a.x a.y a.r a.row now else
 if a.k=3 then d.undo a.x a.y a.r now else if a.k=4 then d.snap a.p now else if a.k=5 then d.fetch a.x a.r a.p now else
 if a.k=6 then d.move a.x a.r a.p now else if a.k=7 then d.who a.x now else (d,Pl.fails 0)
open Go.RowKit
open Pl (Un)
namespace Pl
namespace Dc
structure Keeps (d r:Dc) (a:An) (first:Nat):Prop where
 cs:r.cs=d.cs
 now:r.now=d.now
 whole:a.whole=true→a.text=d.cs
 hist:∀ H O,Hist d H O→Hist r H O∧∀ k,k<a.ops.length→(a.ops.getD k default).l=O (first + k + 1)
def lastL (a:An):List Un:=(a.ops.getD (a.ops.length - 1) default).l
structure Makes (d r:Dc) (a:An) (first:Nat):Prop where
 now:r.now=d.now + 1
 ne:a.ops≠[]
 fit:FitR (lastL a) d.cs
 lv:leave (lastL a) d.cs=r.cs
 top:r.cs.length≤4096
 whole:a.whole=false
 hist:∀ H O,Hist d H O→Hist r (laid H (d.now + 1) r.cs) (laid O (d.now + 1) (lastL a))∧∀ k,k<a.ops.length→(a.ops.getD k default).l=laid O (d.now + 1) (lastL a) (first + k + 1)
def One (d:Dc) (r:Dc × An) (mk:Prop) (first:Nat):Prop :=
 (r.2.e≠0∧r.2=fails r.2.e∧Keeps d r.1 r.2 0)∨(r.2.e=0∧Keeps d r.1 r.2 first)∨(r.2.e=0∧mk∧Makes d r.1 r.2 first)
theorem Keeps.core {d r r':Dc} {a a':An} {first:Nat} (h:Keeps d r a first) (c:Core r r') (h1:a'.whole=a.whole) (h2:a'.text=a.text) (h3:a'.ops=a.ops):Keeps d r' a' first :=
 ⟨c.cs.trans h.cs,c.now.trans h.now,by rw [h1,h2];exact h.whole,fun H O hh=>by rw [h3];exact ⟨(h.hist H O hh).1.core c,(h.hist H O hh).2⟩⟩
theorem Makes.core {d r r':Dc} {a a':An} {first:Nat} (h:Makes d r a first) (c:Core r r') (h1:a'.whole=a.whole) (h3:a'.ops=a.ops):Makes d r' a' first:=by
 have hl:lastL a'=lastL a:=by unfold lastL;rw [h3]
 exact ⟨c.now.trans h.now,by rw [h3];exact h.ne,by rw [hl];exact h.fit,by rw [hl,c.cs];exact h.lv,by rw [c.cs];exact h.top,h1.trans h.whole,fun H O hh=>by rw [h3,hl,c.cs];exact ⟨(h.hist H O hh).1.core c,(h.hist H O hh).2⟩⟩
theorem Keeps.pre {d0 d r:Dc} {a:An} {first:Nat} (h:Keeps d r a first) (c:Core d0 d):Keeps d0 r a first :=
 ⟨h.cs.trans c.cs,h.now.trans c.now,fun hw=>(h.whole hw).trans c.cs,fun H O hh=>h.hist H O (hh.core c)⟩
theorem Makes.pre {d0 d r:Dc} {a:An} {first:Nat} (h:Makes d r a first) (c:Core d0 d):Makes d0 r a first :=
 ⟨by rw [h.now,c.now],h.ne,by rw [← c.cs];exact h.fit,by rw [← c.cs];exact h.lv,h.top,h.whole,fun H O hh=>by rw [← c.now];exact h.hist H O (hh.core c)⟩
theorem Keeps.fails (d:Dc) (e:Int) (first:Nat):Keeps d d (fails e) first:=⟨rfl,rfl,(fun h=>by cases h),fun H O hh=>⟨hh,fun k hk=>absurd hk (Nat.not_lt_zero _)⟩⟩
theorem one_fails (d:Dc) {e:Int} (h:e≠0) (mk:Prop) (first:Nat):One d (d,Pl.fails e) mk first:=.inl ⟨h,rfl,Keeps.fails d e 0⟩
theorem One.first {d:Dc} {r:Dc × An} {mk:Prop} {f g:Nat} (h:One d r mk f) (hg:r.2.ops≠[]→f=g):One d r mk g:=by
 rcases h with h | ⟨h1,h2⟩ | ⟨h1,h2,h3⟩
 ·exact .inl h
 ·refine .inr (.inl ⟨h1,h2.cs,h2.now,h2.whole,fun H O hh=>⟨(h2.hist H O hh).1,fun k hk=>?_⟩⟩)
  rw [← hg (fun hn=>by rw [hn] at hk;exact absurd hk (Nat.not_lt_zero _))]
  exact (h2.hist H O hh).2 k hk
 ·rw [← hg h3.ne]
  exact .inr (.inr ⟨h1,h2,h3⟩)
theorem one_call {d:Dc} {t:Int} {f:Dc→Dc × An} {mk:Prop} {first:Nat} (hf:¬ 1099511627776<t→One (d.touched t) (f (d.touched t)) mk first):One d (d.call t f) mk first:=by
 by_cases ht:1099511627776<t
 ·rw [call_late ht];exact one_fails d (by decide) _ _
 ·rw [call_on ht]
  have c:=core_touched d t
  rcases hf ht with ⟨h1,h2,h3⟩ | ⟨h1,h2⟩ | ⟨h1,h2,h3⟩
  ·rw [if_neg h1];exact .inl ⟨h1,h2,h3.pre c⟩
  ·rw [if_pos h1];exact .inr (.inl ⟨h1,Keeps.pre (Keeps.core h2 (Core.rfl' _) rfl rfl rfl) c⟩)
  ·rw [if_pos h1];exact .inr (.inr ⟨h1,h2,Makes.pre (Makes.core h3 (Core.rfl' _) rfl rfl) c⟩)
theorem one_at {d:Dc} (hd:Ok d) {c t:Int} {f:Dc→Dc × An} {mk:Prop} {first:Nat} (hf:∀ d',Ok d'→Core d d'→One d' (f d') mk first):One d (d.at_ c t f) mk first:=by
 refine one_call fun ht=>?_
 by_cases hl:liveM (d.touched t).L c t=true
 ·simp only [hl,if_true]
  rcases hf _ (ok_touched hd t) (core_touched d t) with ⟨h1,h2,h3⟩ | ⟨h1,h2⟩ | ⟨h1,h2,h3⟩
  ·rw [if_neg h1];exact .inl ⟨h1,h2,h3⟩
  ·rw [if_pos h1];exact .inr (.inl ⟨h1,h2.core (core_renewed _ _ _) rfl rfl rfl⟩)
  ·rw [if_pos h1];exact .inr (.inr ⟨h1,h2,h3.core (core_renewed _ _ _) rfl rfl⟩)
 ·simp only [hl]
  exact one_fails _ (by decide) _ _
theorem keeps_tells (d:Dc) {rev:Nat} {whole:Bool} (he:(d.tells rev whole).e=0):Keeps d d (d.tells rev whole) rev∧((d.tells rev whole).ops≠[]→rev≤d.now∧d.fr≤rev∧(d.tells rev whole).ops=d.later rev):=by
 unfold tells at he ⊢
 split at he
 ·cases he
 ·rename_i h1
  rw [if_neg h1]
  split at he
  ·rename_i h2
   rw [if_pos h2]
   exact ⟨⟨rfl,rfl,fun _=>rfl,fun H O hh=>⟨hh,fun k hk=>absurd hk (Nat.not_lt_zero _)⟩⟩,fun h=>absurd rfl h⟩
  ·rename_i h2
   rw [if_neg h2]
   have hr:d.fr≤rev:=Nat.le_of_not_lt fun hh=>h2 (.inr hh)
   exact ⟨⟨rfl,rfl,(fun h=>by cases h),fun H O hh=>⟨hh,fun k hk=>hh.told hr hk⟩⟩,fun _=>⟨by omega,hr,rfl⟩⟩
theorem len_later {d:Dc} {rev:Nat} (h1:d.fr≤rev) (h2:rev≤d.now):(d.later rev).length=d.now - rev:=by
 unfold now at h2 ⊢
 unfold later
 rw [List.length_drop]
 omega
theorem one_open (d:Dc) (c:Int) (rev:Nat) (t:Int):One d (d.open_ c rev t) False ((d.open_ c rev t).1.now - (d.open_ c rev t).2.ops.length):=by
 have h:One d (d.open_ c rev t) False rev:=by
  refine one_call fun ht=>?_
  generalize d.touched t=d'
  try dsimp only
  by_cases he:(d'.tells rev (rev == 0)).e=0
  ·rw [if_neg (fun h=>h he)]
   split
   ·rename_i h2;exact one_fails _ h2 _ _
   ·exact .inr (.inl ⟨he,(keeps_tells d' he).1.core ⟨rfl,rfl,rfl,rfl⟩ rfl rfl rfl⟩)
  ·rw [if_pos he]
   rcases tells_e d' rev (rev == 0) with h2 | h2
   ·exact absurd h2 he
   ·rw [h2];exact one_fails _ (by decide) _ _
 refine h.first fun hn=>?_
 by_cases ht:1099511627776<t
 ·unfold open_ at hn;rw [call_late ht] at hn;exact absurd rfl hn
 ·unfold open_ at hn ⊢
  rw [call_on ht] at hn ⊢
  generalize d.touched t=d' at hn ⊢
  try dsimp only at hn ⊢
  by_cases he:(d'.tells rev (rev == 0)).e=0
  ·have hne:¬ (d'.tells rev (rev == 0)).e≠0:=fun h=>h he
   simp only [if_neg hne] at hn ⊢
   split at hn
   ·rename_i h2
    have h3:¬ (fails (setL d'.L c t).1).e=0:=h2
    simp only [if_neg h3] at hn
    exact absurd rfl hn
   ·rename_i h2
    rw [if_neg h2]
    simp only [he,if_true] at hn ⊢
    obtain ⟨h3,h4,h5⟩:=(keeps_tells d' he).2 hn
    rw [h5,len_later h4 h3]
    show rev=d'.now - (d'.now - rev)
    omega
  ·have hne:(d'.tells rev (rev == 0)).e≠0:=he
   simp only [if_pos hne,if_neg he] at hn
   rcases tells_e d' rev (rev == 0) with h2 | h2
   ·exact absurd h2 he
   ·rw [h2] at hn;exact absurd rfl hn
theorem one_leave (d:Dc) (c t:Int) (first:Nat):One d (d.leave_ c t) False first:=by
 refine one_call fun ht=>?_
 try dsimp only
 split
 ·exact .inr (.inl ⟨rfl,(Keeps.fails _ 0 first).core ⟨rfl,rfl,rfl,rfl⟩ rfl rfl rfl⟩)
 ·exact one_fails _ (by decide) _ _
theorem one_snap (d:Dc) (keep t:Int) (first:Nat):One d (d.snap keep t) False first:=by
 refine one_call fun ht=>?_
 have hk:(d.touched t).gone keep≤(d.touched t).P.length:=Nat.sub_le _ _
 refine .inr (.inl ⟨rfl,rfl,?_,(fun h=>by cases h),fun H O hh=>⟨hh.cut hk,fun k hk=>absurd hk (Nat.not_lt_zero _)⟩⟩)
 show (d.touched t).fr + (d.touched t).gone keep + ((d.touched t).P.drop ((d.touched t).gone keep)).length=(d.touched t).fr + (d.touched t).P.length
 rw [List.length_drop]
 omega
theorem one_move {d:Dc} (hd:Ok d) (c:Int) (rev:Nat) (pos t:Int) (first:Nat):One d (d.move c rev pos t) False first:=by
 refine one_at hd fun d' _ _=>?_
 try dsimp only
 split
 ·rename_i h;exact one_fails _ h _ _
 ·split
  ·exact one_fails _ (by decide) _ _
  ·exact .inr (.inl ⟨rfl,(Keeps.fails _ 0 first).core ⟨rfl,rfl,rfl,rfl⟩ rfl rfl rfl⟩)
theorem one_who {d:Dc} (hd:Ok d) (c t:Int) (first:Nat):One d (d.who c t) False first :=
 one_at hd fun d' _ _=>.inr (.inl ⟨rfl,(Keeps.fails d' 0 first).core (Core.rfl' _) rfl rfl rfl⟩)
theorem one_fetch {d:Dc} (hd:Ok d) (c:Int) (rev:Nat) (most t:Int):One d (d.fetch c rev most t) False rev:=by
 refine one_at hd fun d' _ _=>?_
 try dsimp only
 split
 ·exact one_fails _ (by decide) _ _
 ·by_cases he:(d'.tells rev false).e=0
  ·rw [if_neg (fun h=>h he)]
   have hk:=(keeps_tells d' he).1
   refine .inr (.inl ⟨he,rfl,rfl,hk.whole,fun H O hh=>⟨hh,fun k hlt=>?_⟩⟩)
   have h0:=(hk.hist H O hh).2 k
   dsimp only at hlt ⊢
   split
   ·rename_i hm
    rw [if_pos hm] at hlt
    exact h0 hlt
   ·rename_i hm
    rw [if_neg hm,List.length_take] at hlt
    rw [List.getD_eq_getElem?_getD,List.getElem?_take_of_lt (by omega),← List.getD_eq_getElem?_getD]
    exact h0 (by omega)
  ·rw [if_pos he]
   rcases tells_e d' rev false with h2 | h2
   ·exact absurd h2 he
   ·rw [h2];exact one_fails _ (by decide) _ _
theorem makes_behind {d:Dc} (hd:Ok d) {x y:Int} {row:List Un} {rev:Nat} (hb:d.bars row=0) (h1:d.fr≤rev) (h2:rev≤d.now):Makes d (d.behind x y row) ⟨0,0,false,[],d.later rev ++ [d.newOp x y row],[]⟩ rev:=by
 obtain ⟨rf,rF,re,rg,rl⟩:=ripe_all hd.p hb
 have hll:=len_later h1 h2
 have hlast:lastL ⟨0,0,false,[],d.later rev ++ [d.newOp x y row],[]⟩=d.ripe row:=by
  unfold lastL
  rw [List.length_append,List.length_singleton,Nat.add_sub_cancel,List.getD_eq_getElem?_getD,List.getElem?_append_right (Nat.le_refl _),Nat.sub_self]
  rfl
 refine ⟨now_behind _ _ _ _,by simp,by rw [hlast];exact rf,by rw [hlast];exact re,(bars_zero hb).2.1,rfl,fun H O hh=>⟨?_,fun k hk=>?_⟩⟩
 ·rw [hlast];exact hh.behind hd.p hb
 ·rw [hlast]
  have hk2:k<(d.later rev).length + 1:=by
   have:k<(d.later rev ++ [d.newOp x y row]).length:=hk
   rw [List.length_append] at this
   exact this
  show ((d.later rev ++ [d.newOp x y row]).getD k default).l=_
  by_cases he:k<(d.later rev).length
  ·rw [laid_ne _ _ (by omega),← hh.told h1 he,List.getD_eq_getElem?_getD,List.getElem?_append_left he,← List.getD_eq_getElem?_getD]
  ·obtain rfl:k=(d.later rev).length:=by omega
   rw [List.getD_eq_getElem?_getD,List.getElem?_append_right (Nat.le_refl _),Nat.sub_self,hll,show rev + (d.now - rev) + 1=d.now + 1 by omega,laid_at]
   rfl
theorem one_edit {d:Dc} (hd:Ok d) (x y:Int) (base:Nat) (row:List Un) (t:Int):One d (d.edit x y base row t) True base:=by
 refine one_at hd fun d' ho _=>?_
 try dsimp only
 split
 ·rename_i h;exact one_fails _ h _ _
 ·rename_i h
  obtain ⟨_,h1,h2,_,_,hb⟩:=editE_zero (Decidable.not_not.1 h)
  exact .inr (.inr ⟨rfl,trivial,makes_behind ho hb h1 h2⟩)
theorem one_undo {d:Dc} (hd:Ok d) (x y:Int) (rev:Nat) (t:Int):One d (d.undo x y rev t) True d.now:=by
 refine one_at hd fun d' ho hc=>?_
 try dsimp only
 split
 ·rename_i h;exact one_fails _ h _ _
 ·rename_i h
  obtain ⟨h1,h2,_,_,hb⟩:=undoE_zero (Decidable.not_not.1 h)
  have hm:=makes_behind (x:=x) (y:=y) ho hb (rev:=d'.now) (by unfold now;omega) (Nat.le_refl _)
  have hl:d'.later d'.now=[]:=by
   unfold later now
   rw [Nat.add_sub_cancel_left,List.drop_length]
  rw [hl] at hm
  refine .inr (.inr ⟨rfl,trivial,?_⟩)
  rw [← hc.now]
  refine ⟨?_,hm.ne,hm.fit,hm.lv,hm.top,hm.whole,fun H O hh=>⟨(hm.hist H O hh).1.mark _,(hm.hist H O hh).2⟩⟩
  show d'.fr + ((d'.behind x y _).P.set _ _).length=_
  rw [List.length_set]
  exact hm.now
end Dc
end Pl
open Go.RowKit
open Pl (Un)
namespace Pl
namespace Dc
theorem at_on' {d:Dc} {c t:Int} (ht:¬ 1099511627776<t) (h:liveM (d.touched t).L c t=true) (f:Dc→Dc × An) (he:(f (d.touched t)).2.e=0):d.at_ c t f=((f (d.touched t)).1.renewed c t,{ (f (d.touched t)).2 with rev:=(f (d.touched t)).1.now }):=by
 unfold at_
 rw [call_on ht]
 simp only [h,if_true,he]
 rfl
end Dc
end Pl
open Go.RowKit
open Pl (Un)
namespace Pl
namespace Dc
theorem at_done {d:Dc} {c t:Int} {f:Dc→Dc × An} (h:(d.at_ c t f).2.e=0):¬ 1099511627776<t∧liveM (d.touched t).L c t=true∧(f (d.touched t)).2.e=0:=by
 unfold at_ at h
 by_cases ht:1099511627776<t
 ·rw [call_late ht] at h;exact absurd h (show ¬ (1:Int)=0 by decide)
 ·rw [call_on ht] at h
  refine ⟨ht,?_⟩
  have key:∀ {E:An} {n:Nat},(if E.e=0 then { E with rev:=n } else E).e=0→E.e=0:=fun {E n} h=>by
   by_cases he:E.e=0
   ·exact he
   ·rw [if_neg he] at h;exact h
  have h2:=key h
  by_cases hl:liveM (d.touched t).L c t=true
  ·simp only [hl,if_true] at h2
   refine ⟨hl,?_⟩
   by_cases he:(f (d.touched t)).2.e=0
   ·exact he
   ·rw [if_neg he] at h2;exact h2
  ·rw [if_neg hl] at h2;exact absurd h2 (show ¬ (36:Int)=0 by decide)
theorem call_rev {d:Dc} {t:Int} {f:Dc→Dc × An} (h:(d.call t f).2.e=0):(d.call t f).2.rev=(d.call t f).1.now:=by
 by_cases ht:1099511627776<t
 ·rw [call_late ht] at h;exact absurd h (show ¬ (1:Int)=0 by decide)
 ·rw [call_on ht] at h ⊢
  by_cases he:(f (d.touched t)).2.e=0
  ·simp only [he,if_true]
  ·rw [if_neg he] at h
   exact absurd h he
theorem edit_makes {d:Dc} (hd:Ok d) {x y:Int} {base:Nat} {row:List Un} {t:Int} (h:(d.edit x y base row t).2.e=0):Makes d (d.edit x y base row t).1 (d.edit x y base row t).2 base∧base=(d.edit x y base row t).1.now - (d.edit x y base row t).2.ops.length:=by
 have hk:=at_done (show (d.at_ x t fun d=>if d.editE x y base row≠0 then (d,fails (d.editE x y base row)) else
  (d.behind x y (d.editRow base row),⟨0,0,false,[],d.later base ++ [d.newOp x y (d.editRow base row)],[]⟩)).2.e=0 from h)
 obtain ⟨ht,hl,he⟩:=hk
 have he0:(d.touched t).editE x y base row=0:=by
  by_cases h1:(d.touched t).editE x y base row=0
  ·exact h1
  ·simp only [ne_eq,h1,not_false_eq_true,if_true] at he
   exact absurd he h1
 have hm:Makes d (d.edit x y base row t).1 (d.edit x y base row t).2 base:=by
  rcases one_edit hd x y base row t with ⟨h1,_⟩ | ⟨h1,h2⟩ | ⟨_,_,h3⟩
  ·exact absurd h h1
  ·refine absurd h2.now ?_
   unfold edit
   rw [at_on' ht hl _ he]
   simp only [he0,ne_eq,not_true_eq_false,if_false]
   show ((d.touched t).behind x y _).now≠_
   rw [now_behind,(core_touched d t).now]
   omega
  ·exact h3
 refine ⟨hm,?_⟩
 rw [hm.now]
 obtain ⟨_,h1,h2,_⟩:=editE_zero he0
 have hln:(d.edit x y base row t).2.ops.length=(d.touched t).now - base + 1:=by
  unfold edit
  rw [at_on' ht hl _ he]
  simp only [he0,ne_eq,not_true_eq_false,if_false]
  rw [List.length_append,List.length_singleton,len_later h1 h2]
 rw [hln]
 rw [(core_touched d t).now] at h2 ⊢
 omega
theorem undo_makes {d:Dc} (hd:Ok d) {x y:Int} {rev:Nat} {t:Int} (h:(d.undo x y rev t).2.e=0):Makes d (d.undo x y rev t).1 (d.undo x y rev t).2 d.now:=by
 obtain ⟨ht,hl,he⟩:=at_done (show (d.at_ x t fun d=>if d.undoE x y rev≠0 then (d,fails (d.undoE x y rev)) else
  ((d.behind x y (d.undoRow x y rev)).mark (rev - d.fr - 1),⟨0,0,false,[],[d.newOp x y (d.undoRow x y rev)],[]⟩)).2.e=0 from h)
 have he0:(d.touched t).undoE x y rev=0:=by
  by_cases h1:(d.touched t).undoE x y rev=0
  ·exact h1
  ·simp only [ne_eq,h1,not_false_eq_true,if_true] at he
   exact absurd he h1
 rcases one_undo hd x y rev t with ⟨h1,_⟩ | ⟨h1,h2⟩ | ⟨_,_,h3⟩
 ·exact absurd h h1
 ·refine absurd h2.now ?_
  unfold undo
  rw [at_on' ht hl _ he]
  simp only [he0,ne_eq,not_true_eq_false,if_false]
  show (((d.touched t).behind x y _).mark _).now≠_
  have:(((d.touched t).behind x y ((d.touched t).undoRow x y rev)).mark (rev - (d.touched t).fr - 1)).now=((d.touched t).behind x y ((d.touched t).undoRow x y rev)).now:=by
   show (d.touched t).fr + (List.set _ _ _).length=_
   rw [List.length_set];rfl
  rw [this,now_behind,(core_touched d t).now]
  omega
 ·exact h3
end Dc
end Pl
end Go.Proofs.YtlgdcelgkiipaaaGreat
