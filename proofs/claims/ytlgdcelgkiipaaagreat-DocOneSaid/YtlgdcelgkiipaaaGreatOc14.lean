/-
  past.Past's behind: the operations from a place on, in new memory. Conditions: those of a past.
  past.Past's Length, Since, At, Copy, Undo's and Drop's part of it: each at a past, at a revision that is not there, and at none. Conditions: those of a past; a revision of 64 bits.
  past.Past's At: at a past, at a revision that is not there, and at none. Conditions: those of a past; a revision of 64 bits.
  past.Past's Undo: at a past, at a revision that is not there, at one that is undone, and at none. Conditions: those of a past; a revision of 64 bits.
-/
import Derived.Test.YtlgdcelgkiipaaaGreatOc13
set_option maxRecDepth 100000
set_option linter.unusedVariables false
namespace Go.Proofs.YtlgdcelgkiipaaaGreat
open Go.RowKit
open Pl (Un)
def RowO (w:World) (B:Nat) (v:Value) (P:List Pl.Op):Prop:=∃ F L,OwnO 45 w B F v L∧(∀ b,F b→B≤b∧b<w.heap.size)∧L.map OpV.op=P
section
variable {w w':World} {B n c:Nat} {A:Option Addr} {v:Value} {P:List Pl.Op}
theorem RowO.nil_ (w:World) (B:Nat):RowO w B (.slice none 0 0) []:=⟨fun _=>False,[],OwnO.nil_ _ _ _ _,fun _ h=>h.elim,rfl⟩
theorem RowO.then_ (h:RowO w B v P) (hb:Below w.heap.size w w'):RowO w' B v P:=by
 obtain ⟨F,L,h1,h2,h3⟩:=h
 exact ⟨F,L,h1.then_ hb,fun b hF=>⟨(h2 b hF).1,Nat.lt_of_lt_of_le (h2 b hF).2 hb.size⟩,h3⟩
theorem RowO.tn {T:Nat→Prop} (h:RowO w B v P) (ht:Tn T w w') (hT:∀ b,T b→b<B):RowO w' B v P:=by
 obtain ⟨F,L,h1,h2,h3⟩:=h
 exact ⟨F,L,h1.tn ht (fun b hF hb=>by have:=(h2 b hF).1;have:=hT b hb;omega) (fun g hg hb=>by have:=(h1.row.lt g hg).1;have:=hT g hb;omega),fun b hF=>⟨(h2 b hF).1,Nat.lt_of_lt_of_le (h2 b hF).2 ht.size⟩,h3⟩
theorem RowO.lower {B':Nat} (h:RowO w B v P) (hb:B'≤B):RowO w B' v P:=by
 obtain ⟨F,L,h1,h2,h3⟩:=h
 exact ⟨F,L,h1.lower hb,fun b hF=>⟨Nat.le_trans hb (h2 b hF).1,(h2 b hF).2⟩,h3⟩
theorem RowO.ops (h:RowO w B (.slice A n c) P):n=P.length∧∃ L,OpsF w (fun b=>B≤b) A n c L∧L.map OpV.op=P:=by
 obtain ⟨F,L,h1,h2,h3⟩:=h
 obtain ⟨hn,hr⟩:=h1.rws
 refine ⟨by rw [hn,← h3,List.length_map],L,⟨hr,fun h0 ad e=>?_,fun o ho=>(h1.uns o ho).more fun b hb=>(h2 b hb).1⟩,h3⟩
 subst e
 exact (h1.row.lt _ rfl).1
end
def RetO (w:World) (P:List Pl.Op) (e:Ending) (w':World):Prop:=∃ A c,e=.returned (.slice A P.length c)∧RowO w' w.heap.size (.slice A P.length c) P∧Below w.heap.size w w'
def BeR (w:World) (k:Nat) (P:List Pl.Op) (s i:Value) (wr:World):Prop:=∃ (j:Nat) (A:Option Addr) (c:Nat),i=.int .i64 (j:Int)∧s=.slice A j c∧k + j≤P.length∧RowO wr w.heap.size (.slice A j c) ((P.drop k).take j)∧Below w.heap.size w wr
theorem lit_op (w:World) (o:OpV):Rws encO (w.alloc (.cells #[.int .u32 o.x,.int .u64 o.y,.slice o.A o.n o.c,.bool o.b] 45)) (w.heap.size + 1) (some ⟨w.heap.size,0,none⟩) 1 1 [o]:=by
 have h:=(OwnR.rws encO_len (litO w [o] (by simp [maxLen]))).2
 simpa [cellsR,encO] using h
theorem OwnO.with {tO:TypeId} {w:World} {base:Nat} {F:Nat→Prop} {v:Value} {L:List OpV} {A':Option Addr} {B':Nat} (h:OwnO tO w base F v L) (hB:∀ g,v.ownBlock=some g→g<B') (hA:∀ a,A'=some a→B'≤a.block):OwnO tO w base (fun b=>F b∨∃ a,A'=some a∧a.block=b) v L :=
 h.more (fun _ hb=>Or.inl hb) fun g hg e=>by
  rcases e with e | ⟨a,e1,e2⟩
  ·exact h.apart g hg e
  ·have:=hB g hg;have:=hA a e1;omega
theorem run_append_op {w:World} {base:Nat} {A:Option Addr} {n c:Nat} {P:List Pl.Op} (ty:TypeId) (w1:World) (h:RowO w1 base (.slice A n c) P) (x y:Int) (l:List Un) (b:Bool) (A':Option Addr) (c':Nat) (ho:OwnU w w1.heap.size (.slice A' l.length c') l) (hb:Below w1.heap.size w1 w) (hbase:base≤w1.heap.size) (hn:n<1000) :
  ∃ A2 c2 w',(Builtin.append_ #[34,34] ty #[.slice A n c,.slice (some ⟨w.heap.size,0,none⟩) 1 1]).run Tryz.prog (w.alloc (.cells #[.int .u32 x,.int .u64 y,.slice A' l.length c',.bool b] 45))=.ok (.slice A2 (n + 1) c2) w'∧RowO w' base (.slice A2 (n + 1) c2) (P ++ [⟨x,y,l,b⟩])∧Below base (w.alloc (.cells #[.int .u32 x,.int .u64 y,.slice A' l.length c',.bool b] 45)) w':=by
 obtain ⟨F,L,h1,h2,h3⟩:=h
 obtain ⟨W,hW⟩ : ∃ W,W=w.alloc (.cells #[.int .u32 x,.int .u64 y,.slice A' l.length c',.bool b] 45):=⟨_,rfl⟩
 have hbW:Below w.heap.size w W:=by rw [hW];exact below_box _ _
 have hs0:=hb.size
 have hs1:=hbW.size
 have hlt:=h1.row.lt
 have hA:∀ a,A'=some a→w1.heap.size≤a.block∧a.block<w.heap.size:=fun a e=>by
  subst e
  exact OwnR.lt ho _ rfl
 have hO:OwnO 45 W base (fun b=>F b∨∃ a,A'=some a∧a.block=b) (.slice A n c) L :=
  OwnO.with ((h1.then_ hb).then_ hbW) (B':=w1.heap.size) (fun g hg=>(hlt g hg).2) (fun a e=>(hA a e).1)
 have hsrc:=lit_op w ⟨x,y,A',l.length,c',l,b⟩
 rw [← hW]
 simp only at hsrc
 rw [← hW] at hsrc
 have hU:UnsF W (fun b=>F b∨∃ a,A'=some a∧a.block=b) A' l.length c' l:=⟨Rws.then_ (OwnU.uns ho) hbW,fun _ ad e=>Or.inr ⟨ad,e,rfl⟩⟩
 obtain ⟨A2,c2,w',hr,ho2,hg,hat⟩:=run_append_ops (tO:=45) (t:=34) (bytes:=48) Tryz.underlying34 infoO rfl ty hO (w.heap.size + 1) (some ⟨w.heap.size,0,none⟩) 1 1 [⟨x,y,A',l.length,c',l,b⟩] hsrc (fun o ho=>by rw [List.mem_singleton.1 ho];exact hU) (fun b hb=>by
   rcases hb with hb | ⟨a,e1,e2⟩
   ·have:=(h2 b hb).2;omega
   ·have:=(hA a e1).2;omega) (by unfold maxLen;omega) (by omega) (by omega)
 refine ⟨A2,c2,w',hr,⟨_,_,ho2,fun b hb=>?_,by rw [List.map_append,h3];rfl⟩,OwnR.grownBelow hO.row hg (Below.refl _ _) (by omega)⟩
 have hs2:=(grown_tn hg).size
 rcases hb with hb | ⟨a,e1,e2⟩
 ·have:=h2 b hb;omega
 ·have:=hA a e1;omega
set_option maxHeartbeats 400000 in
theorem behind_any {w:World} {p:Nat} {F:Nat→Prop} {fr:Nat} {N:Int} {P:List Pl.Op} (h:PastAt w p F fr N P) (k:Nat) (hk:k≤P.length) :
  Calls Tryz.prog 136 #[.pointer (some ⟨p,0,none⟩),.int .i64 (k:Int)] w (RetO w (P.drop k)):=by
 have HLN:=Lib.hid (len_past h)
 have hcnt:=h.fine.cnt
 have hsml:=h.fine.small
 obtain ⟨A,n,c,B,m,d,L,h⟩:=h
 have hn:=h.n_len
 obtain ⟨M,hM⟩ : ∃ M,M=P.length:=⟨_,rfl⟩
 rw [← hM] at HLN hk hcnt hn
 subst hn
 have HH:=Lib.hid h
 have HM:=Lib.hid hM
 have HSM:=Lib.hid hsml
 have hw1:wrap64 ((n:Int) - (k:Int))=((n - k:Nat):Int):=by unfold wrap64;omega
 clear h hM hsml
 go_enter Tryz.func136,Tryz.ntmps136
 go_wp2_with fail
 refine HLN.out.mono ?_
 rintro e w' ⟨rfl,rfl⟩
 obtain ⟨w,hw⟩ : ∃ z,z=w':=⟨_,rfl⟩
 subst hw
 go_wp2_with fail
 go_loopw [5,11] (fun s i wr=>BeR w k P s i wr) (fun _ i _=>n - k - (intOf i).toNat)
 case atStart=>exact ⟨0,none,0,rfl,rfl,by rw [← HM.out];exact hk,by rw [List.take_zero];exact RowO.nil_ _ _,Below.refl _ _⟩
 case round =>
  obtain ⟨j,A1,c1,rfl,rfl,hj,hro,hb⟩:=hrel
  have HRO:=Lib.hid hro
  have HB:=Lib.hid hb
  rw [← HM.out] at hj
  clear hro
  by_cases hlt:j<n - k
  ·have hkn:k + j<n:=by omega
   have hw2:wrap64 ((k:Int) + (j:Int))=((k + j:Nat):Int):=by unfold wrap64;omega
   have z0:(0:Int)≤((k + j:Nat):Int):=by omega
   have z1:((k + j:Nat):Int)<(n:Int):=by omega
   have HMS:=Lib.hid (show n - k - (j + 1)<n - k - j by omega)
   have hj1:j<1000:=by omega
   have HJ:=Lib.hid (show k + (j + 1)≤P.length by rw [← HM.out];exact hkn)
   have hPW:=HH.out.then_ hb
   obtain ⟨c0,c2,c3⟩:=hPW.cells
   obtain ⟨g1,o1,rfl,hg1,_,hc1⟩:=hPW.ops.at_ hkn
   obtain ⟨a0,a1,a2,a3⟩:=hc1 (k + j) hkn
   have hU:=hPW.ops.getD_ hkn
   have hop:=hPW.getD_ (show k + j<P.length by rw [← HM.out];exact hkn)
   have hsm:=HSM.out (P.getD (k + j) default) (by rw [List.getD_eq_getElem?_getD,List.getElem?_eq_getElem (by rw [← HM.out];exact hkn)];exact List.getElem_mem _)
   have HTK:=Lib.hid (show (P.drop k).take (j + 1)=(P.drop k).take j ++ [P.getD (k + j) default] by
    rw [List.take_add_one,List.getElem?_drop,List.getD_eq_getElem?_getD,List.getElem?_eq_getElem (by rw [← HM.out];exact hkn)];rfl)
   obtain ⟨⟨x,y,A2,n2,c2',l,b⟩,ho⟩ : ∃ o,o=L.getD (k + j) default:=⟨_,rfl⟩
   rw [← ho] at a0 a1 a2 a3 hU hop
   simp only at a0 a1 a2 a3 hU
   have hop2:(⟨x,y,l,b⟩ : Pl.Op)=P.getD (k + j) default:=hop
   rw [← hop2] at HTK hsm
   have hl2:=hU.1.len
   have HOW:=Lib.hid (ownOp_any x y A2 n2 c2' l b wr hU.1 (by rw [← hl2];exact hsm))
   clear hPW hc1 hU hop hop2 hsm ho hl2 hg1 hb
   go_wp2_with fail
   refine HOW.out.mono ?_
   rintro e w2 ⟨A3,c3',rfl,ho3,hb3⟩
   obtain ⟨A4,c4,w4,hr,hro4,hb4⟩:=run_append_op 34 wr HRO.out x y l b A3 c3' ho3 hb3 HB.out.size hj1
   have HR:=Lib.hid hr
   rw [← HTK.out] at hro4
   have HRO4:=Lib.hid hro4
   have HB4:=Lib.hid (show Below w.heap.size w w4 from (below_alloc (below_then HB.out hb3) _).trans hb4)
   clear ho3 hb3 hr hro4 hb4 a0 a1 a2 a3 c0 c2 c3
   go_wp2_with (at_builtin;refine Lib.wpList_append_run (w2.alloc (.cells #[.int .u32 x,.int .u64 y,.slice A3 l.length c3',.bool b] 45)) (by rfl) (.tmp 14) (.tmp 25) 34 34 (by rfl) (.slice A1 j c1) (.slice (some ⟨w2.heap.size,0,none⟩) 1 1) (by rfl) (by rfl) _ _ HR.out ?_)
   go_wp2_with fail
   go_roundw
   case rel=>exact ⟨j + 1,A4,c4,by go_num,rfl,HJ.out,HRO4.out,HB4.out⟩
   case measure=>simp [intOf];exact HMS.out
  ·have hjn:j=n - k:=by omega
   subst hjn
   have HE:=Lib.hid (show (P.drop k).take (n - k)=P.drop k from List.take_of_length_le (by rw [List.length_drop,HM.out];exact Nat.le_refl _))
   have HLE:=Lib.hid (show (P.drop k).length=n - k by rw [List.length_drop,HM.out])
   clear hb
   go_wp2_with fail
   go_ret
   rw [← HLE.out]
   refine ⟨A1,c1,rfl,?_,HB.out⟩
   have:=HRO.out
   rw [HE.out] at this
   rw [HLE.out]
   exact this
open Go.RowKit
open Pl (Un)
namespace Pl
theorem place_ok {fr len least rev i:Nat} (hr:rev=fr + i) (h1:least≤i) (h2:i≤len):place fr len least rev=((i:Int),0):=by
 unfold place
 rw [if_neg (by omega),if_neg (by omega)]
 congr 1
 omega
end Pl
variable {w:World} {p:Nat} {F:Nat→Prop} {fr:Nat} {N:Int} {P:List Pl.Op}
set_option maxHeartbeats 400000 in
theorem since_bad (h:PastAt w p F fr N P) (rev:Nat) (hv:rev≤18446744073709551615) (E:Int) (hE:Pl.place fr P.length 0 rev=(0,E)) (hE0:E≠0) :
  Calls Tryz.prog 72 #[.pointer (some ⟨p,0,none⟩),.int .u64 (rev:Int)] w fun e w'=>e=.returned (.tuple #[.slice none 0 0,.int .i64 E])∧Below w.heap.size w w':=by
 have HP:=Lib.hid h
 have HEE:=Lib.hid hE
 have HV:=Lib.hid hv
 have hEb:(E != 0)=true:=by simpa using hE0
 clear h hE hE0 hv
 go_enter Tryz.func72,Tryz.ntmps72
 go_wp2_with fail
 refine (places_any (some ⟨p,0,none⟩) 0 _).mono ?_
 rintro e w1 ⟨⟨f,rfl,a,b,rfl,ha,hb⟩,hbl⟩
 have HB1:=Lib.hid (hbl)
 have HC:=Lib.hid (place_past (PastAt.then_ HP.out HB1.out) 0 rev (by decide) HV.out a b ha hb)
 rw [HEE.out] at HC
 clear ha hb hbl
 go_wp2_with fail
 refine HC.out.mono ?_
 rintro e w2 ⟨rfl,hb2⟩
 have HB2:=Lib.hid (below_then HB1.out hb2)
 clear hb2
 go_wp2_with fail
 go_returns
 exact ⟨rfl,HB2.out⟩
set_option maxHeartbeats 400000 in
theorem length_ok (h:PastAt w p F fr N P) (i rev:Nat) (hr:rev=fr + i) (hi:i≤P.length) :
  Calls Tryz.prog 73 #[.pointer (some ⟨p,0,none⟩),.int .u64 (rev:Int)] w fun e w'=>e=.returned (.tuple #[.int .i64 (N + Pl.total (P.take i)),.int .i64 0])∧Below w.heap.size w w':=by
 have hv:rev≤18446744073709551615:=by have:=h.fine.rev;omega
 have HP:=Lib.hid h
 have HEE:=Lib.hid (Pl.place_ok hr (Nat.zero_le _) hi)
 have HV:=Lib.hid hv
 have HI:=Lib.hid hi
 obtain ⟨z,hz⟩ : ∃ z,z=N + Pl.total (P.take i):=⟨_,rfl⟩
 rw [← hz]
 have HZ:=Lib.hid hz
 clear h hr hv hi hz
 go_enter Tryz.func73,Tryz.ntmps73
 go_wp2_with fail
 refine (places_any (some ⟨p,0,none⟩) 0 _).mono ?_
 rintro e w1 ⟨⟨f,rfl,a,b,rfl,ha,hb⟩,hbl⟩
 have HB1:=Lib.hid hbl
 have HC:=Lib.hid (place_past (PastAt.then_ HP.out HB1.out) 0 rev (by decide) HV.out a b ha hb)
 rw [HEE.out] at HC
 clear ha hb hbl
 go_wp2_with fail
 refine HC.out.mono ?_
 rintro e w2 ⟨rfl,hb2⟩
 have HB2:=Lib.hid (below_then HB1.out hb2)
 obtain ⟨A,n,c,B,m,d,L,hP⟩:=PastAt.then_ HP.out HB2.out
 obtain ⟨c0,c1,c2⟩:=hP.cells
 have him:i<m:=by rw [hP.m_len];have:=HI.out;omega
 obtain ⟨g,o,rfl,hg,hc⟩:=Rws.int_at hP.len him
 have a0:=hc i him
 rw [Pl.lens_at N P HI.out,← HZ.out] at a0
 have z0:(0:Int)≤(i:Int):=by omega
 have z1:(i:Int)<(m:Int):=by omega
 clear hb2 hP hc
 go_wp2_with fail
 go_returns
 exact ⟨rfl,HB2.out⟩
set_option maxHeartbeats 400000 in
theorem since_ok (h:PastAt w p F fr N P) (i rev:Nat) (hr:rev=fr + i) (hi:i≤P.length) :
  Calls Tryz.prog 72 #[.pointer (some ⟨p,0,none⟩),.int .u64 (rev:Int)] w fun e w'=>∃ A c,e=.returned (.tuple #[.slice A (P.drop i).length c,.int .i64 0])∧RowO w' w.heap.size (.slice A (P.drop i).length c) (P.drop i)∧Below w.heap.size w w':=by
 have hv:rev≤18446744073709551615:=by have:=h.fine.rev;omega
 have HP:=Lib.hid h
 have HEE:=Lib.hid (Pl.place_ok hr (Nat.zero_le _) hi)
 have HV:=Lib.hid hv
 have HI:=Lib.hid hi
 obtain ⟨K,hK⟩ : ∃ K,K=P.drop i:=⟨_,rfl⟩
 rw [← hK]
 have HK:=Lib.hid hK
 clear h hr hv hi hK
 go_enter Tryz.func72,Tryz.ntmps72
 go_wp2_with fail
 refine (places_any (some ⟨p,0,none⟩) 0 _).mono ?_
 rintro e w1 ⟨⟨f,rfl,a,b,rfl,ha,hb⟩,hbl⟩
 have HB1:=Lib.hid hbl
 have HC:=Lib.hid (place_past (PastAt.then_ HP.out HB1.out) 0 rev (by decide) HV.out a b ha hb)
 rw [HEE.out] at HC
 clear ha hb hbl
 go_wp2_with fail
 refine HC.out.mono ?_
 rintro e w2 ⟨rfl,hb2⟩
 have HB2:=Lib.hid (below_then HB1.out hb2)
 have HD:=Lib.hid (behind_any (PastAt.then_ HP.out HB2.out) i HI.out)
 rw [← HK.out] at HD
 clear hb2
 go_wp2_with fail
 refine HD.out.mono ?_
 rintro e w3 ⟨A,c,rfl,ho,hb3⟩
 have HO:=Lib.hid (RowO.lower ho HB2.out.size)
 have HB3:=Lib.hid (below_then HB2.out hb3)
 clear ho hb3
 go_wp2_with fail
 go_returns
 exact ⟨A,c,rfl,HO.out,HB3.out⟩
open Go.RowKit
open Pl (Un)
theorem results_pair {fn:Func} {t s:Tmp} {tmps:Array Value} {p:Nat} {Z:World} {x y:Int} {A:Option Addr} {n c:Nat} {b:Bool} {v:Value} (h:fn.results=#[.cell t 45,.tmp s]) (ha:tmps.getD t undef=.pointer (some ⟨p,0,none⟩)) (hs:tmps.getD s undef=v) (hZ:OAt Z p x y A n c b) :
  (results fn tmps).run Tryz.prog Z=.ok (.tuple #[.agg #[.int .u32 x,.int .u64 y,.slice A n c,.bool b],v]) Z:=by
 obtain ⟨c0,c1,c2,c3⟩:=hZ.cells
 have ha':tmps[t]?.getD undef=.pointer (some ⟨p,0,none⟩):=by simpa using ha
 have hs':tmps[s]?.getD undef=v:=by simpa using hs
 simp [results,h,ha',hs',go_sem,c0,c1,c2,c3]
theorem op_new (w:World):OAt (w.alloc (.cells #[.int .u32 0,.int .u64 0,.slice none 0 0,.bool false] 45)) w.heap.size 0 0 none 0 0 false:=heap_new rfl
variable {w:World} {p:Nat} {F:Nat→Prop} {fr:Nat} {N:Int} {P:List Pl.Op}
set_option maxHeartbeats 400000 in
theorem at_bad (h:PastAt w p F fr N P) (rev:Nat) (hv:rev≤18446744073709551615) (E:Int) (hE:Pl.place fr P.length 1 rev=(0,E)) (hE0:E≠0) :
  Calls Tryz.prog 106 #[.pointer (some ⟨p,0,none⟩),.int .u64 (rev:Int)] w fun e w'=>e=.returned (.tuple #[.agg #[.int .u32 0,.int .u64 0,.slice none 0 0,.bool false],.int .i64 E])∧Below w.heap.size w w':=by
 have HP:=Lib.hid h
 have HEE:=Lib.hid hE
 have HV:=Lib.hid hv
 have HO:=Lib.hid (op_new w)
 have hEb:(E != 0)=true:=by simpa using hE0
 clear h hE hE0 hv
 go_enter Tryz.func106,Tryz.ntmps106
 go_wp2_with fail
 refine (places_any (some ⟨p,0,none⟩) 1 _).mono ?_
 rintro e w1 ⟨⟨f,rfl,a,b,rfl,ha,hb⟩,hbl⟩
 have HB1:=Lib.hid (below_then (below_box _ _) hbl)
 have HO1:=Lib.hid (OAt.then_ HO.out hbl)
 have HC:=Lib.hid (place_past (PastAt.then_ HP.out HB1.out) 1 rev (by decide) HV.out a b ha hb)
 rw [HEE.out] at HC
 clear ha hb hbl
 go_wp2_with fail
 refine HC.out.mono ?_
 rintro e w2 ⟨rfl,hb2⟩
 have HB2:=Lib.hid (below_then HB1.out hb2)
 have HO2:=Lib.hid (OAt.then_ HO1.out hb2)
 obtain ⟨d0,d1,d2,d3⟩:=HO2.out.cells
 have f2:=fun j=>HO2.out.frozen j
 clear hb2
 go_wp2_with fail
 exact bodyPost_ret (results_pair rfl (by rfl) (by rfl) (HO2.out.sets 0 0 none 0 0 false)) rfl ⟨rfl,(tn_four w2 w.heap.size _ _ _ _).below HB2.out HB2.out.size (fun b hb=>by rw [hb];exact Nat.le_refl _)⟩
set_option maxHeartbeats 400000 in
theorem at_ok (h:PastAt w p F fr N P) (i rev:Nat) (hr:rev=fr + i) (h1:1≤i) (hi:i≤P.length) (x y:Int) (l:List Un) (b:Bool) (ho:(⟨x,y,l,b⟩ : Pl.Op)=P.getD (i - 1) default) :
  Calls Tryz.prog 106 #[.pointer (some ⟨p,0,none⟩),.int .u64 (rev:Int)] w fun e w'=>∃ A c,e=.returned (.tuple #[.agg #[.int .u32 x,.int .u64 y,.slice A l.length c,.bool b],.int .i64 0])∧OwnU w' w.heap.size (.slice A l.length c) l∧Below w.heap.size w w':=by
 have hv:rev≤18446744073709551615:=by have:=h.fine.rev;omega
 have hcnt:=h.fine.cnt
 have HSM:=Lib.hid (h.fine.small (P.getD (i - 1) default) (by rw [List.getD_eq_getElem?_getD,List.getElem?_eq_getElem (by omega)];exact List.getElem_mem _))
 have HP:=Lib.hid h
 have HEE:=Lib.hid (Pl.place_ok hr h1 hi)
 have HV:=Lib.hid hv
 have HI:=Lib.hid (show i - 1<P.length by omega)
 have HO:=Lib.hid (op_new w)
 have HOO:=Lib.hid ho
 have HBI:=Lib.hid (show i≤256 by omega)
 have hw1:wrap64 ((i:Int) - 1)=((i - 1:Nat):Int):=by unfold wrap64;omega
 clear h hr hv hi ho hcnt
 go_enter Tryz.func106,Tryz.ntmps106
 go_wp2_with fail
 refine (places_any (some ⟨p,0,none⟩) 1 _).mono ?_
 rintro e w1 ⟨⟨f,rfl,a,b',rfl,ha,hb⟩,hbl⟩
 have HB1:=Lib.hid (below_then (below_box _ _) hbl)
 have HO1:=Lib.hid (OAt.then_ HO.out hbl)
 have HC:=Lib.hid (place_past (PastAt.then_ HP.out HB1.out) 1 rev (by decide) HV.out a b' ha hb)
 rw [HEE.out] at HC
 clear ha hb hbl
 go_wp2_with fail
 refine HC.out.mono ?_
 rintro e w2 ⟨rfl,hb2⟩
 have HB2:=Lib.hid (below_then HB1.out hb2)
 have HO2:=Lib.hid (OAt.then_ HO1.out hb2)
 obtain ⟨A,n,c,B,m,d,L,hP⟩:=PastAt.then_ HP.out HB2.out
 obtain ⟨c0,c2,c3⟩:=hP.cells
 have him:i - 1<n:=by rw [hP.n_len];exact HI.out
 obtain ⟨g1,o1,rfl,hg1,_,hc1⟩:=hP.ops.at_ him
 obtain ⟨a0,a1,a2,a3⟩:=hc1 (i - 1) him
 have hU:=hP.ops.getD_ him
 have hop:=hP.getD_ HI.out
 obtain ⟨⟨x',y',A2,n2,c2',l',b2⟩,hq⟩ : ∃ o,o=L.getD (i - 1) default:=⟨_,rfl⟩
 rw [← hq] at a0 a1 a2 a3 hU hop
 simp only at a0 a1 a2 a3 hU
 have hop2:(⟨x',y',l',b2⟩ : Pl.Op)=⟨x,y,l,b⟩:=by rw [HOO.out];exact hop
 have hsm:=HSM.out
 rw [← HOO.out] at hsm
 simp only [Pl.Op.mk.injEq] at hop2
 obtain ⟨rfl,rfl,rfl,rfl⟩:=hop2
 have hl2:=hU.1.len
 have HOW:=Lib.hid (ownOp_any x' y' A2 n2 c2' l' b2 w2 hU.1 (by rw [← hl2];exact hsm))
 have z0:(0:Int)≤((i - 1:Nat):Int):=Int.natCast_nonneg _
 have z1:((i - 1:Nat):Int)<(n:Int):=Int.ofNat_lt.2 him
 clear hb2 hP hc1 hU hop hq hsm hl2 hg1
 go_wp2_with fail
 refine HOW.out.mono ?_
 rintro e w3 ⟨A3,c3',rfl,ho3,hb3⟩
 have HB3:=Lib.hid (below_then HB2.out hb3)
 have HO3:=Lib.hid (OAt.then_ HO2.out hb3)
 have HRO:=Lib.hid ho3
 have HS2:=Lib.hid (show w.heap.size<w2.heap.size from HO2.out.lt)
 obtain ⟨d0,d1,d2,d3⟩:=HO3.out.cells
 have f2:=fun j=>HO3.out.frozen j
 clear hb3 ho3 a0 a1 a2 a3 c0 c2 c3
 go_wp2_with fail
 exact bodyPost_ret (results_pair rfl (by rfl) (by rfl) (HO3.out.sets x' y' A3 l'.length c3' b2)) rfl ⟨A3,c3',rfl,OwnR.lower (OwnR.tn HRO.out (tn_four w3 w.heap.size _ _ _ _) fun g hg e=>by have:=(OwnR.lt HRO.out g hg).1;have:=HS2.out;omega) HB2.out.size,(tn_four w3 w.heap.size _ _ _ _).below HB3.out HB3.out.size (fun b hb=>by rw [hb];exact Nat.le_refl _)⟩
open Go.RowKit
open Pl (Un)
variable {w:World} {p:Nat} {F:Nat→Prop} {fr:Nat} {N:Int} {P:List Pl.Op}
set_option maxHeartbeats 400000 in
theorem undo_done (h:PastAt w p F fr N P) (i rev:Nat) (hr:rev=fr + i) (h1:1≤i) (hi:i≤P.length) (hd:(P.getD (i - 1) default).b=true) :
  Calls Tryz.prog 108 #[.pointer (some ⟨p,0,none⟩),.int .u64 (rev:Int)] w fun e w'=>e=.returned (.int .i64 34)∧Below w.heap.size w w':=by
 have hv:rev≤18446744073709551615:=by have:=h.fine.rev;omega
 have hcnt:=h.fine.cnt
 have HP:=Lib.hid h
 have HEE:=Lib.hid (Pl.place_ok hr h1 hi)
 have HV:=Lib.hid hv
 have HI:=Lib.hid (show i - 1<P.length by omega)
 have HD:=Lib.hid hd
 have hw1:wrap64 ((i:Int) - 1)=((i - 1:Nat):Int):=by unfold wrap64;omega
 clear h hr hv hi hcnt hd
 go_enter Tryz.func108,Tryz.ntmps108
 go_wp2_with fail
 refine (places_any (some ⟨p,0,none⟩) 1 _).mono ?_
 rintro e w1 ⟨⟨f,rfl,a,b',rfl,ha,hb⟩,hbl⟩
 have HB1:=Lib.hid hbl
 have HC:=Lib.hid (place_past (PastAt.then_ HP.out HB1.out) 1 rev (by decide) HV.out a b' ha hb)
 rw [HEE.out] at HC
 clear ha hb hbl
 go_wp2_with fail
 refine HC.out.mono ?_
 rintro e w2 ⟨rfl,hb2⟩
 have HB2:=Lib.hid (below_then HB1.out hb2)
 obtain ⟨A,n,c,B,m,d,L,hP⟩:=PastAt.then_ HP.out HB2.out
 obtain ⟨c0,c2,c3⟩:=hP.cells
 have him:i - 1<n:=by rw [hP.n_len];exact HI.out
 obtain ⟨g1,o1,rfl,hg1,_,hc1⟩:=hP.ops.at_ him
 obtain ⟨a0,a1,a2,a3⟩:=hc1 (i - 1) him
 have hop:=hP.getD_ HI.out
 rw [show (L.getD (i - 1) default).b=true from (congrArg Pl.Op.b hop).trans HD.out] at a3
 have z0:(0:Int)≤((i - 1:Nat):Int):=Int.natCast_nonneg _
 have z1:((i - 1:Nat):Int)<(n:Int):=Int.ofNat_lt.2 him
 clear hb2 hP hc1 hop hg1 a0 a1 a2
 go_wp2_with fail
 go_ret
 exact ⟨rfl,HB2.out⟩
theorem PastW.undone {w3:World} {A A3:Option Addr} {n c c3:Nat} {B:Option Addr} {m d:Nat} {L:List OpV} (h:PastW w p (fun b=>F b∧b<w.heap.size) fr N P A n c B m d L) (hF:∀ b,w.heap.size≤b→F b) (hb:Below w.heap.size w w3) (i:Nat) (hi:i<P.length)
  (ho:OwnR encO 4 45 w3 w.heap.size (.slice A3 L.length c3) L) (hp0:¬ F p):∃ g,A3=some ⟨g,0,none⟩∧g≠p∧(∀ j,j<4→(w3.setCell ⟨p,1,none⟩ (.slice A3 L.length c3)).cell? ⟨g,i * 4 + j,none⟩=(encO (L.getD i default))[j]?)∧(∀ j,(w3.setCell ⟨p,1,none⟩ (.slice A3 L.length c3)).frozen? ⟨g,j,none⟩=false) ∧
  PastAt ((w3.setCell ⟨p,1,none⟩ (.slice A3 L.length c3)).setCell ⟨g,i * 4 + 3,none⟩ (.bool true)) p F fr N (P.set i { P.getD i default with b:=true })∧Tn (fun b=>b=p) w ((w3.setCell ⟨p,1,none⟩ (.slice A3 L.length c3)).setCell ⟨g,i * 4 + 3,none⟩ (.bool true)):=by
 have hLl:=h.len_L
 obtain ⟨g,rfl,hg0,hg1⟩:=OwnR.pos_ ho (by omega)
 have hpl:=h.lt
 have hgp:g≠p:=by omega
 have h3:=h.then_ hb
 obtain ⟨V,hV⟩ : ∃ V:Value,V=.slice (some ⟨g,0,none⟩) L.length c3:=⟨_,rfl⟩
 obtain ⟨W4,hW4⟩ : ∃ W4,W4=w3.setCell ⟨p,1,none⟩ (.slice (some ⟨g,0,none⟩) L.length c3):=⟨_,rfl⟩
 have ht4:Tn (fun b=>b=p) w3 W4:=by rw [hW4];exact (Tn.refl (fun b=>b=p) w3).set_ (p:=⟨p,1,none⟩) (Or.inr rfl) _
 have hO:OwnO 45 W4 w.heap.size (fun b=>F b∧b<w.heap.size) (.slice (some ⟨g,0,none⟩) L.length c3) L:=by
  refine ⟨OwnR.tn ho ht4 (fun g' e e2=>?_),fun o ho=>((h3.ops.2.2 o ho).tn ht4 fun b hb e=>h3.no (by rw [← e];exact hb)),fun g' e hf=>?_⟩
  ·cases e;exact hgp e2
  ·cases e;exact absurd hf.2 (by simpa using hg0)
 have hblk4:W4.heap[p]?=some (.cells #[.int .u64 (fr:Int),.slice (some ⟨g,0,none⟩) L.length c3,.slice B m d] 166 (0,0)):=by
  rw [hW4];exact blk_set (i:=1) h3.blk _
 obtain ⟨hm1,hm2⟩:=hO.mark i (by omega) true
 have ht5:Tn (fun b=>b=g) W4 (W4.setCell ⟨g,i * 4 + 3,none⟩ (.bool true)):=(Tn.refl (fun b=>b=g) W4).set_ (p:=⟨g,i * 4 + 3,none⟩) (Or.inr rfl) _
 rw [← hW4]
 have hcells:∀ j,j<4→W4.cell? ⟨g,i * 4 + j,none⟩=(encO (L.getD i default))[j]?:=fun j hj=>by
  have hr:=(OwnR.rws encO_len hO.row).2
  obtain ⟨g',o',e',_,hc⟩:=Rws.at_ encO_len hr (i:=i) (by omega)
  cases e'
  have hx:(encO (L.getD i default))[j]?=some ((encO (L.getD i default))[j]'(by rw [encO_len];exact hj)):=List.getElem?_eq_getElem _
  rw [hx]
  have:=hc i (by omega) j _ hj hx
  rwa [Nat.zero_add] at this
 refine ⟨g,rfl,hgp,hcells,fun j=>?_,⟨some ⟨g,0,none⟩,L.length,c3,B,m,d,L.set i { L.getD i default with b:=true },⟨?_,?_,?_,?_,?_,hp0,?_⟩⟩,?_⟩
 ·obtain ⟨_,h0⟩:=hO.row
  rcases h0 with ⟨e,_⟩ | ⟨g',cap,cur,e,_,hh,_⟩
  ·cases e
  ·cases e;exact frozen_of_row W4 g j _ _ hh
 ·exact (blk_keep (a:=⟨g,i * 4 + 3,none⟩) (.bool true) (Ne.symm hgp)).trans hblk4
 ·obtain ⟨hn,hr⟩:=hm1.rws
  refine ⟨hr,fun _ ad e=>?_,fun o ho=>(hm1.uns o ho).more fun b hb=>hb.1⟩
  cases e;exact hF g hg0
 ·rw [List.map_set,h.eq]
  congr 1
  have:=h.getD_ hi
  rw [← this];rfl
 ·rw [Pl.lens_set]
  refine Rws.tn (T:=fun b=>b=g) (Rws.tn (T:=fun b=>b=p) h3.len ht4 (h3.inB.apart fun b hb e=>h3.no (by rw [← e];exact hb))) ht5 (h3.inB.apart fun b hb e=>?_)
  have:=hb.2;omega
 ·exact h3.inB.more fun b hb=>hb.1
 ·exact ⟨by rw [List.length_set];exact h.fine.cnt,by rw [List.length_set];exact h.fine.rev,h.fine.small.set i true⟩
 ·exact ((Tn.of (fun b=>b=p) hb).trans ht4 (fun _ _ x=>x)).trans ht5 (fun b hb e=>by omega)
set_option maxHeartbeats 400000 in
theorem undo_ok (h:PastAt w p F fr N P) (hF:∀ b,w.heap.size≤b→F b) (i rev:Nat) (hr:rev=fr + i) (h1:1≤i) (hi:i≤P.length) (hd:(P.getD (i - 1) default).b=false) :
  Calls Tryz.prog 108 #[.pointer (some ⟨p,0,none⟩),.int .u64 (rev:Int)] w fun e w'=>e=.returned (.int .i64 0)∧PastAt w' p F fr N (P.set (i - 1) { P.getD (i - 1) default with b:=true })∧Tn (fun b=>b=p) w w':=by
 have hv:rev≤18446744073709551615:=by have:=h.fine.rev;omega
 have hcnt:=h.fine.cnt
 have HP:=Lib.hid h
 have HEE:=Lib.hid (Pl.place_ok hr h1 hi)
 have HV:=Lib.hid hv
 have HI:=Lib.hid (show i - 1<P.length by omega)
 have HD:=Lib.hid hd
 have HF:=Lib.hid hF
 have HCN:=Lib.hid hcnt
 have hw1:wrap64 ((i:Int) - 1)=((i - 1:Nat):Int):=by unfold wrap64;omega
 clear h hr hv hi hcnt hd hF
 go_enter Tryz.func108,Tryz.ntmps108
 go_wp2_with fail
 refine (places_any (some ⟨p,0,none⟩) 1 _).mono ?_
 rintro e w1 ⟨⟨f,rfl,a,b',rfl,ha,hb⟩,hbl⟩
 have HB1:=Lib.hid hbl
 have HC:=Lib.hid (place_past (PastAt.then_ HP.out HB1.out) 1 rev (by decide) HV.out a b' ha hb)
 rw [HEE.out] at HC
 clear ha hb hbl
 go_wp2_with fail
 refine HC.out.mono ?_
 rintro e w2 ⟨rfl,hb2⟩
 have HB2:=Lib.hid (below_then HB1.out hb2)
 obtain ⟨A,n,c,B,m,d,L,hP⟩:=(PastAt.then_ HP.out HB2.out).old
 obtain ⟨c0,c2,c3⟩:=hP.cells
 have him:i - 1<n:=by rw [hP.n_len];exact HI.out
 obtain ⟨g1,o1,rfl,hg1,_,hc1⟩:=hP.ops.at_ him
 obtain ⟨a0,a1,a2,a3⟩:=hc1 (i - 1) him
 have hop:=hP.getD_ HI.out
 rw [show (L.getD (i - 1) default).b=false from (congrArg Pl.Op.b hop).trans HD.out] at a3
 have z0:(0:Int)≤((i - 1:Nat):Int):=Int.natCast_nonneg _
 have z1:((i - 1:Nat):Int)<(n:Int):=Int.ofNat_lt.2 him
 have HPW:=Lib.hid hP
 have HCL:=Lib.hid (cloneO_any (some ⟨g1,o1,none⟩) n c L w2 hP.ops.1 (by rw [hP.n_len];have:=HCN.out;omega))
 have hLn:L.length=n:=hP.ops.1.len
 clear hb2 hP hc1 hop hg1 a0 a1 a2
 go_wp2_with fail
 refine HCL.out.mono ?_
 rintro e w3 ⟨A3,c3',rfl,ho3,hb3⟩
 obtain ⟨g,rfl,hgp,hcl,hfz,hpast,htn⟩:=HPW.out.undone (fun b hb=>HF.out b (Nat.le_trans HB2.out.size hb)) hb3 (i - 1) HI.out ho3 (fun h=>HP.out.no h)
 have HPA:=Lib.hid hpast
 have HTN:=Lib.hid (show Tn (fun b=>b=p) w _ from (Tn.of (fun b=>b=p) HB2.out).trans htn (fun _ _ x=>x))
 have hP3:=HPW.out.then_ hb3
 obtain ⟨k0,k1,k2⟩:=hP3.cells
 have kf:=fun j=>hP3.frozen j
 have q3:=hcl 3 (by decide)
 rw [show (encO (L.getD (i - 1) default))[3]?=some (.bool (L.getD (i - 1) default).b) from rfl] at q3
 rw [hLn] at q3 hfz HPA HTN ho3 ⊢
 clear hcl hpast htn hP3 ho3 hb3 a3 c0 c2 c3
 go_wp2_with fail
 go_ret
 exact ⟨rfl,HPA.out,HTN.out⟩
end Go.Proofs.YtlgdcelgkiipaaaGreat
