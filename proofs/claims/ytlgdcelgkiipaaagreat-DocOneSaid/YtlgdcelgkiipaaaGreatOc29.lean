/-
  Contract of piece's add: what is inserted is laid behind the second buffer. Conditions: the table is one; the buffers have at most 2^30 code points then.
  Contract of piece's renew: the list of pieces is made anew, of those that a closure lays; for any closure whose own contract is known. Conditions: the table is one; the buffers have at most 2^30 code points.
  Contracts of piece's closures in Insert and Delete, of Insert and of Delete. Conditions: the table is one, or none; the buffers have at most 2^30 code points.
-/
import Derived.Test.YtlgdcelgkiipaaaGreatOc28
set_option maxRecDepth 100000
set_option linter.unusedVariables false
namespace Go.Proofs.YtlgdcelgkiipaaaGreat.Tbl
open Go.RowKit
open Tp (Pc Plc Tab)
def Tp.Tab.grow (t:Tab) (l:List Int):Tab:=⟨t.fst,t.snd ++ l,t.L⟩
theorem Tp.Tab.Ok.grow {t:Tab} {m:Nat} (h:t.Ok m) (l:List Int):(t.grow l).Ok (m + l.length):=by
 refine ⟨fun q hq=>?_,?_,?_⟩
 ·have:=h.1 q hq
  unfold Tab.buf at this ⊢
  show q.2<(if q.1=true then t.snd ++ l else t.fst).length
  split at this
  ·rename_i hs;rw [if_pos hs,List.length_append];omega
  ·rename_i hs;rw [if_neg hs];exact this
 ·show t.L.length≤t.fst.length + (t.snd ++ l).length
  have:=h.2.1
  rw [List.length_append];omega
 ·show t.fst.length + (t.snd ++ l).length≤_
  have:=h.2.2
  rw [List.length_append];omega
theorem did_of {w Z:World} {F:Nat→Prop} {p q:Nat} {t:Tab} {m:Nat} {A1 A2 A3:Option Addr} {c1 c2 c3:Nat} (hlt:∀ b,F b→b<w.heap.size) (hok:t.Ok m) (hm:m≤1073741824) (hp:F p) (hT:Tn F w Z)
  (h1:Z.heap[p]?=some (.cells #[.slice A1 t.fst.length c1,.pointer (some ⟨q,0,none⟩),.int .i64 ((t.snd.length:Nat):Int),.slice A3 (Tp.group t.L).length c3] 181 (0,0)))
  (h2:Z.heap[q]?=some (.cells #[.slice A2 t.snd.length c2] 178 (0,0)))
  (h3:OwnC Z 0 (.slice A1 t.fst.length c1) t.fst) (h4:OwnC Z 0 (.slice A2 t.snd.length c2) t.snd) (h5:OwnP Z 0 (.slice A3 (Tp.group t.L).length c3) (Tp.group t.L)) (h6:F q∨w.heap.size≤q) (h7:p≠q)
  (h8:∀ g,Value.ownBlock (.slice A1 t.fst.length c1)=some g→(F g∨w.heap.size≤g)∧g≠p∧g≠q∧some g≠Value.ownBlock (.slice A2 t.snd.length c2))
  (h9:∀ g,Value.ownBlock (.slice A2 t.snd.length c2)=some g→(F g∨w.heap.size≤g)∧g≠p∧g≠q)
  (h10:∀ g,Value.ownBlock (.slice A3 (Tp.group t.L).length c3)=some g→(F g∨w.heap.size≤g)∧g≠p∧g≠q∧some g≠Value.ownBlock (.slice A2 t.snd.length c2)) :
  Did w F p t m Z:=by
 have hz:=hT.size
 have l1:=h3.lt
 have l2:=h4.lt
 have l3:=OwnR.lt h5
 exact ⟨fun b=>(F b∨w.heap.size≤b)∧b<Z.heap.size,⟨fun b hb=>hb.2,hok,hm,⟨Or.inl hp,lt_of_block h1⟩,A1,c1,q,A2,c2,A3,c3,h1,h2,h3,h4,h5,⟨h6,lt_of_block h2⟩,h7,fun g hg=>⟨⟨(h8 g hg).1,(l1 g hg).2⟩,(h8 g hg).2⟩,fun g hg=>⟨⟨(h9 g hg).1,(l2 g hg).2⟩,(h9 g hg).2⟩,fun g hg=>⟨⟨(h10 g hg).1,(l3 g hg).2⟩,(h10 g hg).2⟩⟩,hT,fun b hb=>hb.1,fun b hb=>⟨Or.inl hb,by have:=hlt b hb;omega⟩⟩
theorem drew_heap (w:World):w.drew.heap=w.heap:=rfl
def addZ (w4:World) (p q r:Nat) (v0 v2 x0 x1 x2:Value):World:=(((((w4.setCell ⟨q,0,none⟩ v0).setCell ⟨p,2,none⟩ v2).setCell ⟨r,0,none⟩ x0).setCell ⟨r,1,none⟩ x1).setCell ⟨r,2,none⟩ x2).drew
theorem addZ_far {w4:World} {p q r:Nat} {v0 v2 x0 x1 x2:Value} {b:Nat} (e1:b≠p) (e2:b≠q) (e3:b≠r):(addZ w4 p q r v0 v2 x0 x1 x2).heap[b]?=w4.heap[b]?:=by
 unfold addZ
 rw [drew_heap]
 rw [blk_keep x2 e3,blk_keep x1 e3,blk_keep x0 e3,blk_keep v2 e1,blk_keep v0 e2]
theorem addZ_p {w4:World} {p q r:Nat} {v0 v2 x0 x1 x2:Value} (e1:p≠q) (e2:p≠r):(addZ w4 p q r v0 v2 x0 x1 x2).heap[p]?=(w4.setCell ⟨p,2,none⟩ v2).heap[p]?:=by
 unfold addZ
 rw [drew_heap]
 rw [blk_keep x2 e2,blk_keep x1 e2,blk_keep x0 e2]
 simp only [World.setCell,Array.getElem?_modify,e1.symm,if_true,if_false]
theorem addZ_q {w4:World} {p q r:Nat} {v0 v2 x0 x1 x2:Value} (e1:q≠p) (e2:q≠r):(addZ w4 p q r v0 v2 x0 x1 x2).heap[q]?=(w4.setCell ⟨q,0,none⟩ v0).heap[q]?:=by
 unfold addZ
 rw [drew_heap]
 rw [blk_keep x2 e2,blk_keep x1 e2,blk_keep x0 e2,blk_keep v2 e1]
theorem addZ_tn {w w4:World} {F:Nat→Prop} {p q r:Nat} (hT:Tn F w w4) (hp:F p) (hq:F q) (hr:w.heap.size≤r) (v0 v2 x0 x1 x2:Value):Tn F w (addZ w4 p q r v0 v2 x0 x1 x2):=by
 have h1:=hT.set_ (p:=⟨q,0,none⟩) (Or.inr hq) v0
 have h2:=h1.set_ (p:=⟨p,2,none⟩) (Or.inr hp) v2
 have h3:=h2.set_ (p:=⟨r,0,none⟩) (Or.inl hr) x0
 have h4:=h3.set_ (p:=⟨r,1,none⟩) (Or.inl hr) x1
 have h5:=h4.set_ (p:=⟨r,2,none⟩) (Or.inl hr) x2
 exact h5.drew
theorem add_did {w V1 w4:World} {F:Nat→Prop} {p q n:Nat} {t:Tab} {m:Nat} {A1 A2 A3 A4:Option Addr} {c1 c2 c3 c4:Nat} {l:List Int} {x0 x1 x2:Value} (hlt:∀ b,F b→b<w.heap.size) (hok:t.Ok m) (hp:F p) (hl:l.length=n) (hm2:m + n≤1073741824)
  (h3:OwnC w 0 (.slice A1 t.fst.length c1) t.fst) (h5:OwnP w 0 (.slice A3 (Tp.group t.L).length c3) (Tp.group t.L)) (h6:F q) (h7:p≠q)
  (h8:∀ g,Value.ownBlock (.slice A1 t.fst.length c1)=some g→F g∧g≠p∧g≠q∧some g≠Value.ownBlock (.slice A2 t.snd.length c2))
  (h9:∀ g,Value.ownBlock (.slice A2 t.snd.length c2)=some g→F g∧g≠p∧g≠q)
  (h10:∀ g,Value.ownBlock (.slice A3 (Tp.group t.L).length c3)=some g→F g∧g≠p∧g≠q∧some g≠Value.ownBlock (.slice A2 t.snd.length c2))
  (hb:Below w.heap.size w V1) (hV:V1.heap.size=w.heap.size + 2) (hO4:OwnC w4 0 (.slice A4 (t.snd.length + n) c4) (t.snd ++ l)) (hg4:V1.drew.drew.grownBy w4 (Value.ownBlock (.slice A2 t.snd.length c2)))
  (hat:Value.ownBlock (.slice A4 (t.snd.length + n) c4)=Value.ownBlock (.slice A2 t.snd.length c2)∨Value.ownBlock (.slice A4 (t.snd.length + n) c4)=some V1.drew.drew.heap.size)
  (p4:w4.heap[p]?=some (.cells #[.slice A1 t.fst.length c1,.pointer (some ⟨q,0,none⟩),.int .i64 ((t.snd.length:Nat):Int),.slice A3 (Tp.group t.L).length c3] 181 (0,0)))
  (q4:w4.heap[q]?=some (.cells #[.slice A2 t.snd.length c2] 178 (0,0))) :
  Did w F p (t.grow l) (m + n) (addZ w4 p q w.heap.size (.slice A4 (t.snd.length + n) c4) (.int .i64 ((t.snd.length:Int) + (n:Int))) x0 x1 x2):=by
 have lp:=hlt p hp
 have lq:=hlt q h6
 have hT4:Tn F w w4:=((Tn.of F hb).drew.drew).grown hg4 (fun k e=>Or.inr (h9 k e).1)
 have hT:=addZ_tn (r:=w.heap.size) hT4 hp h6 (Nat.le_refl _) (.slice A4 (t.snd.length + n) c4) (.int .i64 ((t.snd.length:Int) + (n:Int))) x0 x1 x2
 have hfar:∀ b,b≠p→b≠q→b≠w.heap.size→(addZ w4 p q w.heap.size (.slice A4 (t.snd.length + n) c4) (.int .i64 ((t.snd.length:Int) + (n:Int))) x0 x1 x2).heap[b]?=w4.heap[b]?:=fun b e1 e2 e3=>addZ_far e1 e2 e3
 have hw4:∀ b,b<w.heap.size→some b≠Value.ownBlock (.slice A2 t.snd.length c2)→w4.heap[b]?=w.heap[b]?:=fun b h1 h2=>(hg4.block b (by show b<V1.heap.size;omega) h2).trans (hb.block b h1)
 have hpz:(addZ w4 p q w.heap.size (.slice A4 (t.snd.length + n) c4) (.int .i64 ((t.snd.length:Int) + (n:Int))) x0 x1 x2).heap[p]?=some (.cells #[.slice A1 t.fst.length c1,.pointer (some ⟨q,0,none⟩),.int .i64 ((t.snd.length:Int) + (n:Int)),.slice A3 (Tp.group t.L).length c3] 181 (0,0)):=by
  rw [addZ_p h7 (by omega),blk_set p4];rfl
 have hqz:(addZ w4 p q w.heap.size (.slice A4 (t.snd.length + n) c4) (.int .i64 ((t.snd.length:Int) + (n:Int))) x0 x1 x2).heap[q]?=some (.cells #[.slice A4 (t.snd.length + n) c4] 178 (0,0)):=by
  rw [addZ_q h7.symm (by omega),blk_set q4];rfl
 revert hT hfar hpz hqz
 generalize addZ w4 p q w.heap.size (.slice A4 (t.snd.length + n) c4) (.int .i64 ((t.snd.length:Int) + (n:Int))) x0 x1 x2=Z
 intro hT hfar hpz hqz
 have hl2:(t.grow l).snd.length=t.snd.length + n:=by show (t.snd ++ l).length=_;rw [List.length_append,hl]
 have h9':∀ g,Value.ownBlock (.slice A4 (t.snd.length + n) c4)=some g→(F g∨w.heap.size≤g)∧g≠p∧g≠q∧g≠w.heap.size:=fun g hg=>by
  rcases hat with e | e
  ·rw [e] at hg
   have h1:=h9 g hg
   have h2:=hlt g h1.1
   exact ⟨Or.inl h1.1,h1.2.1,h1.2.2,by omega⟩
  ·rw [e] at hg
   have h1:V1.heap.size=g:=Option.some.inj hg
   exact ⟨Or.inr (by omega),by omega,by omega,by omega⟩
 have hne:∀ g,F g→some g≠Value.ownBlock (.slice A2 t.snd.length c2)→some g≠Value.ownBlock (.slice A4 (t.snd.length + n) c4):=fun g h1 h2 h3=>by
  rcases hat with e | e
  ·exact h2 (h3.trans e)
  ·have h4:V1.heap.size=g:=(Option.some.inj (h3.trans e)).symm
   have:=hlt g h1
   omega
 refine did_of (A1:=A1) (A2:=A4) (A3:=A3) (c1:=c1) (c2:=c4) (c3:=c3) (q:=q) hlt (by have:=hok.grow l;rwa [hl] at this) hm2 hp hT ?_ ?_ ?_ ?_ ?_ (Or.inl h6) h7 ?_ ?_ ?_
 ·rw [hl2,Int.natCast_add];exact hpz
 ·rw [hl2];exact hqz
 ·refine h3.same fun g _ h1 hg=>?_
  have h2:=h8 g hg
  exact (hfar g h2.2.1 h2.2.2.1 (by omega)).trans (hw4 g h1 h2.2.2.2)
 ·rw [hl2]
  refine hO4.same fun g _ h1 hg=>?_
  have h2:=h9' g hg
  exact hfar g h2.2.1 h2.2.2.1 h2.2.2.2
 ·refine OwnR.same h5 fun g _ h1 hg=>?_
  have h2:=h10 g hg
  exact (hfar g h2.2.1 h2.2.2.1 (by omega)).trans (hw4 g h1 h2.2.2.2)
 ·intro g hg
  have h2:=h8 g hg
  rw [hl2]
  exact ⟨Or.inl h2.1,h2.2.1,h2.2.2.1,hne g h2.1 h2.2.2.2⟩
 ·intro g hg
  rw [hl2] at hg
  have h2:=h9' g hg
  exact ⟨h2.1,h2.2.1,h2.2.2.1⟩
 ·intro g hg
  have h2:=h10 g hg
  rw [hl2]
  exact ⟨Or.inl h2.1,h2.2.1,h2.2.2.1,hne g h2.1 h2.2.2.2⟩
set_option maxHeartbeats 1000000 in
theorem add_tb {w:World} {F:Nat→Prop} {p:Nat} {t:Tab} {m:Nat} (h:Tb w F p t m) (A':Option Addr) (n c':Nat) (l:List Int) (hl:Crs w w.heap.size A' n c' l) (hm2:m + n≤1073741824) :
  Calls Tryz.prog 237 #[.pointer (some ⟨p,0,none⟩),.slice A' n c'] w fun e w'=>e=.returned (aggP ⟨true,t.snd.length,n⟩)∧Did w F p (t.grow l) (m + n) w':=by
 have HTB:=Lib.hid h
 have hok:=h.ok
 have hlt:=h.lt
 obtain ⟨_,_,hm,hp,A1,c1,q,A2,c2,A3,c3,h1,h2,h3,h4,h5,h6,h7,h8,h9,h10⟩:=h
 have hsn:t.snd.length≤1073741824:=by have:=hok.2.2;omega
 obtain ⟨N,hN⟩ : ∃ N,N=t.snd.length:=⟨_,rfl⟩
 have HL:=Lib.hid hl
 have p1:=cell1 h1
 have p2:=cell2 h1
 have q0:=cell0 h2
 rw [← hN] at p2 q0 hsn
 have lp:=hlt p hp
 have lq:=hlt q h6
 have HALL:=Lib.hid (And.intro h1 (And.intro h2 (And.intro h3 (And.intro h4 (And.intro h5 (And.intro h6 (And.intro h7 (And.intro h8 (And.intro h9 h10)))))))))
 have HN:=Lib.hid hN
 have HOK:=Lib.hid (And.intro hok (And.intro hlt hp))
 clear h1 h2 h3 h4 h5 h6 h8 h9 h10 hl hok hlt hN hp
 obtain ⟨V1,hV1⟩ : ∃ V1,V1=(w.alloc (.cells #[.bool false,.int .i64 0,.int .i64 0] 183)).alloc (.cells #[.bool true,.int .i64 (N:Int),.int .i64 (n:Int)] 183):=⟨_,rfl⟩
 have HB1:=Lib.hid (show Below w.heap.size w V1 by rw [hV1];exact below_alloc (below_alloc (Below.refl _ w) _) _)
 have HV1:=Lib.hid hV1
 clear hV1
 have hpn:p≠w.heap.size:=by omega
 have hqn:q≠w.heap.size:=by omega
 rw [aggP_eq]
 simp only
 go_enter Tryz.func237,Tryz.ntmps237
 go_wp2_with fail
 go_region
 go_wp2_with fail
 rw [← HV1.out]
 obtain ⟨h1,h2,h3,h4,h5,h6,h7,h8,h9,h10⟩:=HALL.out
 have hO:=Lib.hid (show OwnC V1.drew.drew 0 (.slice A2 N c2) t.snd by rw [HN.out];exact OwnC.below h4 (HB1.out.drew.drew) (fun g hg=>HOK.out.2.1 g (h9 g hg).1))
 have hS:=Lib.hid (show Crs V1.drew.drew w.heap.size A' n c' l from HL.out.below (HB1.out.drew.drew) (Nat.le_refl _))
 have v1:=cell1 (below_old HB1.out h1 lp)
 have v0:=cell0 (below_old HB1.out h2 lq)
 rw [← HN.out] at v0
 have zV:V1.heap.size=w.heap.size + 2:=by rw [HV1.out];simp
 have pa:V1.heap[w.heap.size]?=some (.cells #[.bool false,.int .i64 0,.int .i64 0] 183 (0,0)):=by rw [HV1.out,Below.heap_alloc _ _ _ (by simp)];exact heap_alloc_new w _
 have pb:V1.heap[w.heap.size + 1]?=some (.cells #[.bool true,.int .i64 (N:Int),.int .i64 (n:Int)] 183 (0,0)):=by rw [HV1.out];exact heap_new (by simp)
 -- what the append leaves aas it was
 have HK:=Lib.hid (show ∀ w4,V1.drew.drew.grownBy w4 (Value.ownBlock (.slice A2 N c2))→∀ b o,(b=p∨b=q∨b=w.heap.size∨b=w.heap.size + 1)→V1.heap[b]?=some o→w4.heap[b]?=some o from fun w4 hg b o hb ho=>(hg.block b (by have:=lt_of_block ho;exact this) (fun e=>by
  rw [HN.out] at e
  have h1:=h9 b e.symm
  have h2:=HOK.out.2.1 b h1.1
  rcases hb with rfl | rfl | rfl | rfl <;> omega)).trans ho)
 have HP:=Lib.hid (And.intro (below_old HB1.out h1 lp) (And.intro (below_old HB1.out h2 lq) (And.intro pa pb)))
 rw [← HN.out] at HP
 clear h1 h2 h3 h4 h5 h6 h8 h9 h10 p1 p2 q0 pa pb zV
 go_region_law (refine step_append_crs V1.drew.drew (by rfl) (.tmp 54) (.tmp 55) (by rfl) 0 A2 N c2 t.snd (by rfl) hO.out w.heap.size A' n c' l (by rfl) hS.out (by omega) (Nat.zero_le _) ?_;intro A4 c4 w4 hO4 hg4 hat4;have p4:=HK.out w4 hg4 p _ (Or.inl rfl) HP.out.1;have q4:=HK.out w4 hg4 q _ (Or.inr (Or.inl rfl)) HP.out.2.1;have b4:=HK.out w4 hg4 _ _ (Or.inr (Or.inr (Or.inr rfl))) HP.out.2.2.2;have f4:=frozen_of_row w4 q 0 _ _ q4;have r4:=cell0 q4;have r5:=cell1 p4)
 all_goals
  obtain ⟨X,hX⟩ : ∃ X,X=w4.setCell ⟨q,0,none⟩ (.slice A4 (N + n) c4):=⟨_,rfl⟩
  rw [← hX]
  have a4:=HK.out w4 hg4 _ _ (Or.inr (Or.inr (Or.inl rfl))) HP.out.2.2.1
  have xp:X.heap[p]?=_:=hX ▸ (blk_keep (a:=⟨q,0,none⟩) _ h7).trans p4
  have xb:X.heap[w.heap.size + 1]?=_:=hX ▸ (blk_keep (a:=⟨q,0,none⟩) _ (by simp only;omega)).trans b4
  have xa:X.heap[w.heap.size]?=_:=hX ▸ (blk_keep (a:=⟨q,0,none⟩) _ (by simp only;omega)).trans a4
  have y0:=cell0 xb
  have y1:=cell1 xb
  have y2:=cell2 xb
  have u2:=cell2 xp
  have fp:=frozen_of_row X p 2 _ _ xp
  have fa:=fun j=>frozen_of_row X w.heap.size j _ _ xa
  have u0:=cell0 xa
  have u1:=cell1 xa
  have u3:=cell2 xa
  have HX:=Lib.hid (And.intro hX (And.intro hO4 (And.intro hg4 (And.intro hat4 (And.intro p4 (And.intro q4 (And.intro xp (And.intro xa xb))))))))
  clear hX hO4 hg4 hat4 p4 q4 xp xa xb a4 b4 f4 r4 r5 v1 v0
  go_wp2_with fail
  go_region
  go_wp2_with fail
  obtain ⟨Z,hZ⟩ : ∃ Z,Z=((((X.setCell ⟨p,2,none⟩ (.int .i64 ((N:Int) + (n:Int)))).setCell ⟨w.heap.size,0,none⟩ (.bool true)).setCell ⟨w.heap.size,1,none⟩ (.int .i64 (N:Int))).setCell ⟨w.heap.size,2,none⟩ (.int .i64 (n:Int))).drew:=⟨_,rfl⟩
  rw [← hZ]
  obtain ⟨hX,hO4,hg4,hat4,p4,q4,xp,xa,xb⟩:=HX.out
  have za:Z.heap[w.heap.size]?=some (.cells #[.bool true,.int .i64 (N:Int),.int .i64 (n:Int)] 183 (0,0)):=by
   rw [hZ]
   show ((((X.setCell ⟨p,2,none⟩ _).setCell ⟨w.heap.size,0,none⟩ _).setCell ⟨w.heap.size,1,none⟩ _).setCell ⟨w.heap.size,2,none⟩ _).heap[w.heap.size]?=_
   rw [blk_set (blk_set (blk_set ((blk_keep (a:=⟨p,2,none⟩) _ (by simp only;omega)).trans xa) _) _)];rfl
  have z0:=cell0 za
  have z1:=cell1 za
  have z2:=cell2 za
  refine bodyPost_ret (v:=.agg #[.bool true,.int .i64 (N:Int),.int .i64 (n:Int)]) (by simp [results,Tryz.results237,z0,z1,z2,go_sem]) rfl ⟨by rw [HN.out],?_⟩
  rw [hZ,hX]
  obtain ⟨h1,h2,h3,h4,h5,h6,h7',h8,h9,h10⟩:=HALL.out
  rw [HN.out] at hO4 hg4 hat4 p4 q4 ⊢
  exact add_did HOK.out.2.1 HOK.out.1 HOK.out.2.2 HL.out.len hm2 h3 h5 h6 h7 h8 h9 h10 HB1.out (by rw [HV1.out];simp) hO4 hg4 hat4 p4 q4
open Go.RowKit
open Tp (Pc Plc Tab)
theorem renew_did {w w3:World} {F G:Nat→Prop} {p q N:Nat} {t:Tab} {m:Nat} {L':List Plc} {A1 A2 A3 A:Option Addr} {c1 c2 c3 c:Nat} (hlt:∀ b,F b→b<w.heap.size) (hok:(⟨t.fst,t.snd,L'⟩ : Tab).Ok m) (hm:m≤1073741824) (hp:F p)
  (h1:w.heap[p]?=some (.cells #[.slice A1 t.fst.length c1,.pointer (some ⟨q,0,none⟩),.int .i64 ((t.snd.length:Nat):Int),.slice A3 (Tp.group t.L).length c3] 181 (0,0)))
  (h2:w.heap[q]?=some (.cells #[.slice A2 t.snd.length c2] 178 (0,0)))
  (h3:OwnC w 0 (.slice A1 t.fst.length c1) t.fst) (h4:OwnC w 0 (.slice A2 t.snd.length c2) t.snd) (h6:F q) (h7:p≠q)
  (h8:∀ g,Value.ownBlock (.slice A1 t.fst.length c1)=some g→F g∧g≠p∧g≠q∧some g≠Value.ownBlock (.slice A2 t.snd.length c2))
  (h9:∀ g,Value.ownBlock (.slice A2 t.snd.length c2)=some g→F g∧g≠p∧g≠q)
  (hb:Below w.heap.size w w3) (hJ:JL w.heap.size N G (Tp.group L') w3)
  (hN:w3.heap[N]?=some (.cells #[.slice A (Tp.group L').length c] 179 (0,0))) :
  Did w F p ⟨t.fst,t.snd,L'⟩ m (w3.setCell ⟨p,3,none⟩ (.slice A (Tp.group L').length c)):=by
 obtain ⟨A',c',j1,j2,j3,j4,j5⟩:=hJ
 rw [hN] at j1
 simp only [Option.some.injEq,Obj.cells.injEq,Array.mk.injEq,List.cons.injEq,Value.slice.injEq,and_true,true_and] at j1
 obtain ⟨rfl,rfl⟩:=j1
 have lp:=hlt p hp
 have lq:=hlt q h6
 have hT:Tn F w (w3.setCell ⟨p,3,none⟩ (.slice A (Tp.group L').length c)):=(Tn.of F hb).set_ (p:=⟨p,3,none⟩) (Or.inr hp) _
 have hfar:∀ b,b≠p→(w3.setCell ⟨p,3,none⟩ (.slice A (Tp.group L').length c)).heap[b]?=w3.heap[b]?:=fun b e=>blk_keep _ e
 have hpz:(w3.setCell ⟨p,3,none⟩ (.slice A (Tp.group L').length c)).heap[p]?=some (.cells #[.slice A1 t.fst.length c1,.pointer (some ⟨q,0,none⟩),.int .i64 ((t.snd.length:Nat):Int),.slice A (Tp.group L').length c] 181 (0,0)):=by
  rw [blk_set (below_old hb h1 lp)];rfl
 revert hT hfar hpz
 generalize w3.setCell ⟨p,3,none⟩ (.slice A (Tp.group L').length c)=Z
 intro hT hfar hpz
 have hl3:=OwnR.lt j2
 refine did_of (t:=⟨t.fst,t.snd,L'⟩) (A1:=A1) (A2:=A2) (A3:=A) (c1:=c1) (c2:=c2) (c3:=c) (q:=q) hlt hok hm hp hT hpz ?_ ?_ ?_ ?_ (Or.inl h6) h7 ?_ ?_ ?_
 ·exact (hfar q h7.symm).trans (below_old hb h2 lq)
 ·exact h3.same fun g _ h1 hg=>(hfar g (h8 g hg).2.1).trans (hb.block g h1)
 ·exact h4.same fun g _ h1 hg=>(hfar g (h9 g hg).2.1).trans (hb.block g h1)
 ·exact OwnR.lower (OwnR.same j2 fun g h1 _ hg=>hfar g (by omega)) (Nat.zero_le _)
 ·exact fun g hg=>⟨Or.inl (h8 g hg).1,(h8 g hg).2⟩
 ·exact fun g hg=>⟨Or.inl (h9 g hg).1,(h9 g hg).2⟩
 ·intro g hg
  have h:=(hl3 g hg).1
  exact ⟨Or.inr h,by omega,by omega,fun e=>by have:=hlt g (h9 g e.symm).1;omega⟩
theorem callLay (args:Array Value) (w:World):(callFunc 249 args).run Tryz.prog w=.ok (.enter 249 args) w:=by simp [go_sem]
set_option maxHeartbeats 1000000 in
theorem renew_any {w:World} {F:Nat→Prop} {p:Nat} {t:Tab} {m:Nat} (h:Tb w F p t m) (f:FuncId) (caps:Array Value) (L':List Plc) (hL':(⟨t.fst,t.snd,L'⟩ : Tab).Ok m)
  (hf:∀ args w,(callFunc f args).run Tryz.prog w=.ok (.enter f args) w)
  (hC:∀ N G w1,Below w.heap.size w w1→JL w.heap.size N G [] w1→Calls Tryz.prog f (#[.func (.func 249) #[] #[.pointer (some ⟨N,0,none⟩)]] ++ caps) w1 (Left (fun G out w2=>JL w.heap.size N G out w2) G (Tp.group L') w1)) :
  Calls Tryz.prog 238 #[.pointer (some ⟨p,0,none⟩),.func (.func f) #[] caps] w fun e w'=>e=.returned (.tuple #[])∧Did w F p ⟨t.fst,t.snd,L'⟩ m w':=by
 have hok:=h.ok
 have hlt:=h.lt
 obtain ⟨_,_,hm,hp,A1,c1,q,A2,c2,A3,c3,h1,h2,h3,h4,h5,h6,h7,h8,h9,h10⟩:=h
 have hps:=Tp.group_len t.L
 have hlen:=hok.len
 have p3:=cell3 h1
 obtain ⟨k,hk⟩ : ∃ k,k=(Tp.group t.L).length:=⟨_,rfl⟩
 rw [← hk] at p3 hps
 have hkb:k≤1073741824:=by omega
 have HALL:=Lib.hid (fun w3 N G A c=>renew_did (w:=w) (w3:=w3) (N:=N) (G:=G) (A:=A) (c:=c) (L':=L') hlt hL' hm hp h1 h2 h3 h4 h6 h7 h8 h9)
 have HP:=Lib.hid (And.intro h1 (hlt p hp))
 have HC:=Lib.hid hC
 obtain ⟨i0,hi,hz0,hz1,hz2⟩:=info_parts infoPc
 have HI:=Lib.hid (And.intro hi (And.intro hz0 (And.intro hz1 (show i0.bytes * (k + 2)≤281474976710656 by rw [hz2];omega))))
 clear h1 h2 h3 h4 h5 h6 h7 h8 h9 h10 hok hlt hp hps hlen hC hk hi hz0 hz1 hz2 hL'
 go_enter Tryz.func238,Tryz.ntmps238
 go_wp2_with (at_make;refine wpList_make_own w rfl (.const (.int .i64 0)) (.tmp 11) 179 rfl w.heap.size 183 i0 _ 3 Tryz.underlying179 HI.out.1 HI.out.2.1 HI.out.2.2.1 .i64 .i64 _ (k + 2) (by rfl) (by rfl) (by omega) HI.out.2.2.2 (by unfold maxLen;omega) (Nat.le_refl _) ?_)
 intro w1 ho1 hg1
 have hb1:Below w.heap.size w w1:=(Below.refl _ w).grown hg1 (Nat.le_refl _) (fun k e=>by cases e)
 obtain ⟨W,hW⟩ : ∃ W,W=w1.alloc (.cells #[.slice (some ⟨w.heap.size,0,none⟩) 0 (k + 2)] 179):=⟨_,rfl⟩
 have hbW:Below w.heap.size w W:=by rw [hW];exact below_alloc hb1 _
 have hJ0:JL w.heap.size w1.heap.size (fun b=>b=w.heap.size∨b=w1.heap.size) [] W:=by
  have hz:=hb1.size
  have hl:=(World.ownsRow.lt ho1 w.heap.size rfl).2
  have hzW:W.heap.size=w1.heap.size + 1:=by rw [hW];simp
  refine ⟨some ⟨w.heap.size,0,none⟩,k + 2,by rw [hW];exact heap_alloc_new w1 _,by rw [hW];exact OwnR.alloc (show OwnR encP 3 183 w1 w.heap.size (.slice (some ⟨w.heap.size,0,none⟩) 0 (k + 2)) [] from ho1) _,fun g hg=>?_,⟨Or.inr rfl,fun b hb=>?_⟩,fun x hx=>by cases hx⟩
  ·have e:g=w.heap.size:=by cases hg;rfl
   subst e
   exact ⟨Or.inl rfl,by omega⟩
  ·rcases hb with rfl | rfl <;> omega
 have HCC:=Lib.hid (HC.out w1.heap.size _ W hbW hJ0)
 have HW:=Lib.hid (And.intro hW (And.intro hbW hb1))
 clear ho1 hg1 hb1 hbW hJ0 hW HC
 go_wp2_with fail
 rw [← HW.out.1]
 refine HCC.out.mono ?_
 rintro e w3 ⟨rfl,ht3,G3,hJ3,hG3⟩
 have hb3:Below w.heap.size w w3:=ht3.below HW.out.2.1 HW.out.2.1.size (fun b hb=>by have:=HW.out.2.2.size;rcases hb with rfl | rfl <;> omega)
 have hJ3':=hJ3
 obtain ⟨A,c,j1,j2,j3,j4,j5⟩:=hJ3
 have n0:=cell0 j1
 have p3':=below_old hb3 HP.out.1 HP.out.2
 have f3:=frozen_of_row w3 p 3 _ _ p3'
 have e3:=cell3 p3'
 have HD:=Lib.hid (HALL.out w3 w1.heap.size G3 A c hb3 hJ3' j1)
 clear j1 j2 j3 j4 j5 hJ3' hb3 p3' ht3 hG3 HCC p3
 go_wp2_with fail
 refine ⟨rfl,_,results_none (by kernel_rfl) _ _ _,rfl,?_⟩
 exact HD.out
open Go.RowKit
open Tp (Pc Plc Tab)
theorem len_lay (out:List Pc) (p:Pc):(Tp.lay out p).length≤out.length + 1:=by
 unfold Tp.lay
 split
 ·rw [List.length_set];omega
 ·simp
theorem len_lays:∀ (acc out:List Pc),(acc.foldl Tp.lay out).length≤out.length + acc.length
 | [],out=>by simp
 | p :: acc,out=>by
  have h1:=len_lays acc (Tp.lay out p)
  have h2:=len_lay out p
  simp only [List.foldl_cons,List.length_cons]
  omega
theorem len_clip (ps:List Pc):∀ (f u:Int),(Tp.clip f u ps).length≤ps.length:=by
 induction ps with
 | nil=>intro f u;simp [Tp.clip]
 | cons y l ih =>
  intro f u
  have h1:(Tp.clip1 f u y).length≤1:=by unfold Tp.clip1;split <;> simp
  have:=ih (f - y.len) (u - y.len)
  rw [Tp.clip,List.length_append,List.length_cons];omega
def JF (base N:Nat) (G:Nat→Prop) (acc:List Pc) (w:World):Prop:=JL base N G (acc.foldl Tp.lay []) w
theorem jf_keeps (base N:Nat):Keeps base (JF base N):=⟨fun _ _ _ _ h hb=>JL.grow h hb,fun _ _ _ h=>JL.lt h⟩
theorem jf_lay {base N:Nat} {G:Nat→Prop} {acc:List Pc} {x:Pc} {w:World} (h:JF base N G acc w) (hx:x.at_ + x.len≤1073741824) (hl:acc.length≤8589934592) (hb:base≤w.heap.size) :
  Calls Tryz.prog 249 #[aggP x,.pointer (some ⟨N,0,none⟩)] w (Left (JF base N) G (acc ++ [x]) w) :=
 (lay_any base N G (acc.foldl Tp.lay []) x w h hx (by have:=len_lays acc [];simp at this;omega) hb).mono fun e w' ⟨h1,h2,h3⟩ =>
  ⟨h1,h3,More G w w',by unfold JF;rw [List.foldl_append];exact h2,fun b (hb:More G w w' b)=>hb.elim Or.inl (fun h=>Or.inr h.1)⟩
theorem part_lay {w:World} {F:Nat→Prop} {p:Nat} {t:Tab} {m:Nat} (h:Tb w F p t m) (f0 u0:Int) (hf0:0≤f0∧f0≤1073741824) (hu0:0≤u0∧u0≤1073741824) (base N:Nat) (G0:Nat→Prop) (acc:List Pc)
  (hF:∀ b,F b→b<base) (hbase:base≤w.heap.size) (hJ:JF base N G0 acc w) (hacc:acc.length≤4294967296) :
  Calls Tryz.prog 225 #[.pointer (some ⟨p,0,none⟩),.int .i64 f0,.int .i64 u0,.func (.func 249) #[] #[.pointer (some ⟨N,0,none⟩)]] w (Left (JF base N) G0 (acc ++ Tp.clip f0 u0 (Tp.group t.L)) w):=by
 refine part_any h f0 u0 hf0 hu0 249 #[.pointer (some ⟨N,0,none⟩)] base (JF base N) G0 acc callLay hF hbase hJ (jf_keeps base N) ?_
 intro G acc2 x w1 hJ1 hb1 hx1 hx2 hl
 have hl:acc2.length≤(Tp.group t.L).length:=by
  obtain ⟨r,hr⟩:=hl
  have h1:=len_clip (Tp.group t.L) f0 u0
  rw [hr,List.length_append,List.length_append] at h1
  omega
 have hlen:=h.ok.len
 have hps:=Tp.group_len t.L
 have hm:=h.le
 have hbuf:(t.buf x.s).length≤1073741824:=by have:=h.ok.2.2;unfold Tab.buf;split <;> omega
 have:=jf_lay (x:=x) hJ1 (by omega) (by rw [List.length_append];omega) (Nat.le_trans hbase hb1.size)
 rw [List.append_assoc] at this
 exact this
set_option maxHeartbeats 1000000 in
theorem insClos {w:World} {F:Nat→Prop} {p:Nat} {t:Tab} {m:Nat} (h:Tb w F p t m) (base N bt bp bc k:Nat) (G:Nat→Prop) (x:Pc) (hF:∀ b,F b→b<base) (hbase:base≤w.heap.size) (hJ:JL base N G [] w) (hk:k≤t.L.length) (hx:x.at_ + x.len≤1073741824)
  (h1:w.heap[bt]?=some (.cells #[.pointer (some ⟨p,0,none⟩)] 83 (0,0))) (h2:w.heap[bp]?=some (.cells #[.int .i64 (k:Int)] 3 (0,0))) (h3:w.heap[bc]?=some (.cells #[.bool x.s,.int .i64 (x.at_:Int),.int .i64 (x.len:Int)] 183 (0,0)))
  (b1:bt<base) (b2:bp<base) (b3:bc<base) :
  Calls Tryz.prog 239 #[.func (.func 249) #[] #[.pointer (some ⟨N,0,none⟩)],.pointer (some ⟨bt,0,none⟩),.pointer (some ⟨bp,0,none⟩),.pointer (some ⟨bc,0,none⟩)] w
   (Left (JF base N) G ((Tp.clip 0 (k:Int) (Tp.group t.L) ++ [x]) ++ Tp.clip (k:Int) (t.L.length:Int) (Tp.group t.L)) w):=by
 have hlen:=h.ok.len
 have hm:=h.le
 have hps:=Tp.group_len t.L
 have c1:=cell0 h1
 have c2:=cell0 h2
 have HP1:=Lib.hid (part_lay h 0 (k:Int) (by omega) (by omega) base N G [] hF hbase hJ (by simp))
 rw [List.nil_append] at HP1
 have HTB:=Lib.hid (fun w2 (hb:Below base w w2)=>h.below hb hF)
 have HBX:=Lib.hid (And.intro h1 (And.intro h2 (And.intro h3 (And.intro b1 (And.intro b2 b3)))))
 have HJB:=Lib.hid (JL.lt hJ)
 obtain ⟨C1,hC1⟩ : ∃ C,C=Tp.clip 0 (k:Int) (Tp.group t.L):=⟨_,rfl⟩
 have hC1l:C1.length≤1073741824:=by rw [hC1];have:=len_clip (Tp.group t.L) 0 (k:Int);omega
 rw [← hC1] at HP1 ⊢
 have HLY:=Lib.hid (fun G2 w2 (hj:JF base N G2 C1 w2) (hb:base≤w2.heap.size)=>jf_lay (x:=x) hj hx (by omega) hb)
 have HP2:=Lib.hid (fun w2 (hb:Below base w w2) G2 (hj:JF base N G2 (C1 ++ [x]) w2)=>part_lay (h.below hb hF) (k:Int) (t.L.length:Int) (by omega) (by omega) base N G2 (C1 ++ [x]) hF (Nat.le_trans hbase hb.size) hj (by simp;omega))
 have HL:=Lib.hid (fun w2 (hb:Below base w w2)=>len_tb (h.below hb hF))
 obtain ⟨K,hK⟩ : ∃ K,K=t.L.length:=⟨_,rfl⟩
 rw [← hK] at HP2 HL hk hlen ⊢
 clear hC1 h h1 h2 h3 hJ hF hK hps
 go_enter Tryz.func239,Tryz.ntmps239
 go_wp2_with fail
 refine HP1.out.mono ?_
 rintro e w2 ⟨rfl,ht2,G2,hJ2,hG2⟩
 have hb2:Below base w w2:=ht2.new hbase (fun b hb=>(HJB.out b hb).1)
 have HB2:=Lib.hid (And.intro hb2 (And.intro ht2 hG2))
 have n3:=below_old hb2 HBX.out.2.2.1 HBX.out.2.2.2.2.2
 have d0:=cell0 n3
 have d1:=cell1 n3
 have d2:=cell2 n3
 have HC:=Lib.hid (HLY.out G2 w2 hJ2 (Nat.le_trans hbase hb2.size))
 rw [aggP_eq] at HC
 clear hb2 ht2 hG2 hJ2 n3 HP1 HLY c1 c2
 go_wp2_with fail
 refine HC.out.mono ?_
 rintro e w3 ⟨rfl,ht3,G3,hJ3,hG3⟩
 have hjl:∀ b,G2 b→base≤b:=fun b hb=>(HB2.out.2.2 b hb).elim (fun h=>(HJB.out b h).1) (fun h=>Nat.le_trans hbase h)
 have hb3:Below base w w3:=HB2.out.1.trans (ht3.new (Nat.le_trans hbase HB2.out.1.size) hjl)
 have hjl3:∀ b,G3 b→G b∨w.heap.size≤b:=fun b hb=>(hG3 b hb).elim (fun h=>HB2.out.2.2 b h) (fun h=>Or.inr (Nat.le_trans HB2.out.1.size h))
 have ht03:Tn G w w3:=HB2.out.2.1.trans ht3 (fun b h1 h2=>(HB2.out.2.2 b h2).elim id (fun h=>by omega))
 have HB3:=Lib.hid (And.intro hb3 (And.intro ht03 hjl3))
 have e1:=cell0 (below_old hb3 HBX.out.1 HBX.out.2.2.2.1)
 have e2:=cell0 (below_old hb3 HBX.out.2.1 HBX.out.2.2.2.2.1)
 have z3:=hb3.size
 have HL3:=Lib.hid (HL.out w3.drew hb3.drew)
 have HP3:=Lib.hid (fun wL (hb:Below w3.drew.heap.size w3.drew wL)=>HP2.out wL ((hb3.drew).trans (hb.mono (Nat.le_trans hbase z3))) G3 (JL.grow hJ3 (below_drew hb)))
 have HS3:=Lib.hid (fun wL (hb:Below w3.drew.heap.size w3.drew wL)=>And.intro ((hb.cell (p:=⟨bt,0,none⟩) (Nat.lt_of_lt_of_le b1 (Nat.le_trans hbase z3))).trans e1) ((hb.cell (p:=⟨bp,0,none⟩) (Nat.lt_of_lt_of_le b2 (Nat.le_trans hbase z3))).trans e2))
 have HS4:=Lib.hid (fun wL wP (hb:Below w3.drew.heap.size w3.drew wL) (ht:Tn G3 wL wP)=>(And.intro ((ht.new (B:=base) (Nat.le_trans hbase (Nat.le_trans z3 hb.size)) (fun b hb=>(hjl3 b hb).elim (fun h=>(HJB.out b h).1) (fun h=>Nat.le_trans hbase h))).cell (p:=⟨bt,0,none⟩) b1) ((ht.new (B:=base) (Nat.le_trans hbase (Nat.le_trans z3 hb.size)) (fun b hb=>(hjl3 b hb).elim (fun h=>(HJB.out b h).1) (fun h=>Nat.le_trans hbase h))).cell (p:=⟨bp,0,none⟩) b2)))
 clear d0 d1 d2 HC hb3 hjl hjl3 ht03 ht3 hG3 hJ3 z3 HP2 HL
 go_wp2_with fail
 go_region_held3 (fun w'=>w'.cell? ⟨bt,0,none⟩=some (.pointer (some ⟨p,0,none⟩))∧w'.cell? ⟨bp,0,none⟩=some (.int .i64 (k:Int)))
  (first | go_keep | (go_split_ands;exact HS3.out _ hbL) | (go_split_ands;exact ⟨(HS4.out _ _ hbL htP).1.trans (HS3.out _ hbL).1,(HS4.out _ _ hbL htP).2.trans (HS3.out _ hbL).2⟩))
  (first | (go_at_call 84;refine HL3.out.mono ?_;rintro e wL ⟨rfl,hbL⟩) | (go_at_call 225;refine (HP3.out _ hbL).mono ?_;rintro e wP ⟨rfl,htP,GP,hJP,hGP⟩))
 all_goals
  refine ⟨rfl,_,results_none (by kernel_rfl) _ _ _,rfl,?_⟩
  obtain ⟨hb3,ht03,hjl3⟩:=HB3.out
  have z3:w.heap.size≤wL.heap.size:=Nat.le_trans hb3.size hbL.size
  refine ⟨(ht03.trans (Tn.of G (below_drew hbL)) (fun b h1 h2=>h2)).trans htP (fun b h1 h2=>(hjl3 b h2).elim id (fun h=>by omega)),GP,hJP,fun b hb=>?_⟩
  rcases hGP b hb with h | h
  ·exact hjl3 b h
  ·exact Or.inr (by omega)
set_option maxHeartbeats 1000000 in
theorem delClos {w:World} {F:Nat→Prop} {p:Nat} {t:Tab} {m:Nat} (h:Tb w F p t m) (base N bt bp bn k n:Nat) (G:Nat→Prop) (hF:∀ b,F b→b<base) (hbase:base≤w.heap.size) (hJ:JL base N G [] w) (hk:k + n≤t.L.length)
  (h1:w.heap[bt]?=some (.cells #[.pointer (some ⟨p,0,none⟩)] 83 (0,0))) (h2:w.heap[bp]?=some (.cells #[.int .i64 (k:Int)] 3 (0,0))) (h3:w.heap[bn]?=some (.cells #[.int .i64 (n:Int)] 3 (0,0)))
  (b1:bt<base) (b2:bp<base) (b3:bn<base) :
  Calls Tryz.prog 240 #[.func (.func 249) #[] #[.pointer (some ⟨N,0,none⟩)],.pointer (some ⟨bt,0,none⟩),.pointer (some ⟨bp,0,none⟩),.pointer (some ⟨bn,0,none⟩)] w
   (Left (JF base N) G (Tp.clip 0 (k:Int) (Tp.group t.L) ++ Tp.clip ((k + n:Nat):Int) (t.L.length:Int) (Tp.group t.L)) w):=by
 have hlen:=h.ok.len
 have hm:=h.le
 have hps:=Tp.group_len t.L
 have c1:=cell0 h1
 have c2:=cell0 h2
 have HP1:=Lib.hid (part_lay h 0 (k:Int) (by omega) (by omega) base N G [] hF hbase hJ (by simp))
 rw [List.nil_append] at HP1
 have HBX:=Lib.hid (And.intro h1 (And.intro h2 (And.intro h3 (And.intro b1 (And.intro b2 b3)))))
 have HJB:=Lib.hid (JL.lt hJ)
 obtain ⟨C1,hC1⟩ : ∃ C,C=Tp.clip 0 (k:Int) (Tp.group t.L):=⟨_,rfl⟩
 have hC1l:C1.length≤1073741824:=by rw [hC1];have:=len_clip (Tp.group t.L) 0 (k:Int);omega
 rw [← hC1] at HP1 ⊢
 have HP2:=Lib.hid (fun w2 (hb:Below base w w2) G2 (hj:JF base N G2 C1 w2)=>part_lay (h.below hb hF) ((k + n:Nat):Int) (t.L.length:Int) (by omega) (by omega) base N G2 C1 hF (Nat.le_trans hbase hb.size) hj (by omega))
 have HL:=Lib.hid (fun w2 (hb:Below base w w2)=>len_tb (h.below hb hF))
 obtain ⟨K,hK⟩ : ∃ K,K=t.L.length:=⟨_,rfl⟩
 rw [← hK] at HP2 HL hk hlen ⊢
 have hkb:k≤1073741824:=by omega
 have hnb:n≤1073741824:=by omega
 have hw:IntKind.i64.wrap ((k:Int) + (n:Int))=(k:Int) + (n:Int):=by simp [IntKind.wrap,IntKind.bits,IntKind.signed];omega
 rw [Int.natCast_add] at HP2
 clear hC1 h h1 h2 h3 hJ hF hK hps
 go_enter Tryz.func240,Tryz.ntmps240
 go_wp2_with fail
 refine HP1.out.mono ?_
 rintro e w3 ⟨rfl,ht3,G3,hJ3,hG3⟩
 have hb3:Below base w w3:=ht3.new hbase (fun b hb=>(HJB.out b hb).1)
 have hjl3:=hG3
 have HB3:=Lib.hid (And.intro hb3 (And.intro ht3 hjl3))
 have e1:=cell0 (below_old hb3 HBX.out.1 HBX.out.2.2.2.1)
 have e2:=cell0 (below_old hb3 HBX.out.2.1 HBX.out.2.2.2.2.1)
 have e3:=cell0 (below_old hb3 HBX.out.2.2.1 HBX.out.2.2.2.2.2)
 have z3:=hb3.size
 have HL3:=Lib.hid (HL.out w3.drew hb3.drew)
 have HP3:=Lib.hid (fun wL (hb:Below w3.drew.heap.size w3.drew wL)=>HP2.out wL ((hb3.drew).trans (hb.mono (Nat.le_trans hbase z3))) G3 (JL.grow hJ3 (below_drew hb)))
 have HS3:=Lib.hid (fun wL (hb:Below w3.drew.heap.size w3.drew wL)=>And.intro ((hb.cell (p:=⟨bt,0,none⟩) (Nat.lt_of_lt_of_le b1 (Nat.le_trans hbase z3))).trans e1) (And.intro ((hb.cell (p:=⟨bp,0,none⟩) (Nat.lt_of_lt_of_le b2 (Nat.le_trans hbase z3))).trans e2) ((hb.cell (p:=⟨bn,0,none⟩) (Nat.lt_of_lt_of_le b3 (Nat.le_trans hbase z3))).trans e3)))
 have HS4:=Lib.hid (fun wL wP (hb:Below w3.drew.heap.size w3.drew wL) (ht:Tn G3 wL wP)=>ht.new (B:=base) (Nat.le_trans hbase (Nat.le_trans z3 hb.size)) (fun b hb=>(hjl3 b hb).elim (fun h=>(HJB.out b h).1) (fun h=>Nat.le_trans hbase h)))
 clear hb3 hjl3 ht3 hG3 hJ3 z3 HP2 HL HP1 c1 c2
 go_wp2_with fail
 go_region_held3 (fun w'=>w'.cell? ⟨bt,0,none⟩=some (.pointer (some ⟨p,0,none⟩))∧w'.cell? ⟨bp,0,none⟩=some (.int .i64 (k:Int))∧w'.cell? ⟨bn,0,none⟩=some (.int .i64 (n:Int)))
  (first | go_keep | (go_split_ands;exact HS3.out _ hbL) | (go_split_ands;exact ⟨((HS4.out _ _ hbL htP).cell (p:=⟨bt,0,none⟩) b1).trans (HS3.out _ hbL).1,((HS4.out _ _ hbL htP).cell (p:=⟨bp,0,none⟩) b2).trans (HS3.out _ hbL).2.1,((HS4.out _ _ hbL htP).cell (p:=⟨bn,0,none⟩) b3).trans (HS3.out _ hbL).2.2⟩))
  (first | (go_at_call 84;refine HL3.out.mono ?_;rintro e wL ⟨rfl,hbL⟩) | (go_at_call 225;refine (HP3.out _ hbL).mono ?_;rintro e wP ⟨rfl,htP,GP,hJP,hGP⟩))
 all_goals
  refine ⟨rfl,_,results_none (by kernel_rfl) _ _ _,rfl,?_⟩
  obtain ⟨hb3,ht03,hjl3⟩:=HB3.out
  have z3:w.heap.size≤wL.heap.size:=Nat.le_trans hb3.size hbL.size
  rw [Int.natCast_add]
  refine ⟨(ht03.trans (Tn.of G (below_drew hbL)) (fun b h1 h2=>h2)).trans htP (fun b h1 h2=>(hjl3 b h2).elim id (fun h=>by omega)),GP,hJP,fun b hb=>?_⟩
  rcases hGP b hb with h | h
  ·exact hjl3 b h
  ·exact Or.inr (by omega)
end Go.Proofs.YtlgdcelgkiipaaaGreat.Tbl
