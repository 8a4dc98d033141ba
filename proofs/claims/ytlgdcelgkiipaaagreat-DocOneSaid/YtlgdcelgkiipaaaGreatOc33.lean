/-
  undo.Fill's closure, which keeps a text of its own. Conditions: the text is at most a hundred thousand code points; the unit fits it.
  undo.Fill, undo.Back. Conditions: rows of at most a thousand units; texts of at most ninety thousand code points.
  A document in memory: its block, its past, its table, its leases, its marks, each block told apart by a colour; what keeps it, and how one part is laid anew. Conditions: those that each states.
-/
import Derived.Test.YtlgdcelgkiipaaaGreatOc32
import Derived.Test.YtlgdcelgkiipaaaGreatOc13
import Derived.Test.YtlgdcelgkiipaaaGreatOc16
import Derived.Test.YtlgdcelgkiipaaaGreatOc17
import Derived.Test.YtlgdcelgkiipaaaGreatOc25
import Derived.Test.YtlgdcelgkiipaaaGreatOc30
set_option maxRecDepth 100000
set_option linter.unusedVariables false
namespace Go.Proofs.YtlgdcelgkiipaaaGreat
open Go.RowKit
open Pl (Un)
def InC (w:World) (pb:Nat) (v:Value):Prop:=w.heap[pb]?=some (.cells #[v] 33 (0,0))
theorem InC.cell {w:World} {pb:Nat} {v:Value} (h:InC w pb v):w.cell? ⟨pb,0,none⟩=some v:=cell0 (r:=[]) h
theorem InC.lt {w:World} {pb:Nat} {v:Value} (h:InC w pb v):pb<w.heap.size:=lt_of_block h
theorem InC.tn {T:Nat→Prop} {w w':World} {pb:Nat} {v:Value} (h:InC w pb v) (ht:Tn T w w') (hT:¬ T pb):InC w' pb v:=ht.old h hT
theorem InC.frozen {w:World} {pb:Nat} {v:Value} (h:InC w pb v):w.frozen? ⟨pb,0,none⟩=false:=frozen_of_row w pb 0 _ _ h
theorem InC.set_ {w:World} {pb:Nat} {v:Value} (h:InC w pb v) (v':Value):InC (w.setCell ⟨pb,0,none⟩ v') pb v':=blk_set (i:=0) h v'
structure FiT (w:World) (base pb:Nat) (V:Value) (cs:List Int):Prop where
 cell:InC w pb V
 own:∃ A c,V=.slice A cs.length c∧OwnC w base (.slice A cs.length c) cs
 ne:V.ownBlock≠some pb
 le:base≤w.heap.size
theorem FiT.tn {T:Nat→Prop} {w w':World} {base pb:Nat} {V:Value} {cs:List Int} (h:FiT w base pb V cs) (ht:Tn T w w') (hp:¬ T pb) (hv:∀ g,V.ownBlock=some g→¬ T g):FiT w' base pb V cs:=by
 obtain ⟨A,c,e,ho⟩:=h.own
 subst e
 exact ⟨h.cell.tn ht hp,⟨A,c,rfl,ho.tn ht hv⟩,h.ne,Nat.le_trans h.le ht.size⟩
def RetFi (w:World) (base pb:Nat) (V:Value) (u:Un) (cs:List Int) (e:Ending) (w':World):Prop :=
 e=.returned (uval (Pl.fillU u cs))∧∃ V',FiT w' base pb V' (Pl.behind u cs)∧Tn (fun b=>b=pb∨V.ownBlock=some b) w w'∧∀ g,V'.ownBlock=some g→V.ownBlock=some g∨w.heap.size≤g
theorem getD_fill (x y:Int) (p:Nat) (c:Int) (cs:List Int):Pl.fillU ⟨2,(p:Int),c,x,y⟩ cs=⟨2,(p:Int),cs.getD p 0,x,y⟩:=by
 unfold Pl.fillU;rw [if_pos rfl,Int.toNat_natCast]
set_option maxHeartbeats 1000000 in
theorem fillC_any (u:Un) (cs:List Int) (V:Value) (base pb:Nat) (w:World) (hS:FiT w base pb V cs) (hf:Pl.Fit u cs.length) (hn:cs.length≤100000) :
  Calls Tryz.prog 205 #[uval u,.pointer (some ⟨pb,0,none⟩)] w (RetFi w base pb V u cs):=by
 obtain ⟨A,c,rfl,ho⟩:=hS.own
 obtain ⟨N,hN⟩ : ∃ N,N=cs.length:=⟨_,rfl⟩
 rw [← hN] at ho hS hn hf ⊢
 have HN:=Lib.hid hN
 have hpl:=hS.cell.lt
 have hble:=hS.le
 have HNE:=Lib.hid (show ∀ g,Value.ownBlock (.slice A N c)=some g→g≠pb from fun g h e=>hS.ne (by rw [h,e]))
 rcases Pl.fit_cases hf with ⟨x,y,rfl⟩ | ⟨p,ch,x,y,rfl,hp,hmay⟩ | ⟨p,ch,x,y,rfl,hp,hmay⟩
 ·-- a Nop
  have hb2:Below w.heap.size w ((w.alloc (.cells #[.int .i64 0,.int .i64 0,.int .i32 0,.int .u32 x,.int .u64 y] 47)).alloc (.cells #[.int .i64 0,.int .i64 0,.int .i32 0,.int .u32 x,.int .u64 y] 47)):=below_alloc (below_box _ _) _
  have HS:=Lib.hid (hS.tn (Tn.of (fun _=>False) hb2) (fun h=>h) (fun g _ h=>h))
  have HB:=Lib.hid hb2
  unfold uval
  simp only
  clear hS ho hb2 hf
  go_enter Tryz.func205,Tryz.ntmps205
  go_wp2_with fail
  refine bodyPost_ret (results_unit rfl (by rfl) (show UAt _ (w.heap.size + 1) 0 0 0 x y from heap_new (by simp))) rfl ⟨rfl,_,?_,Tn.of _ HB.out,fun g hg=>Or.inl hg⟩
  rw [Pl.behind_nop];exact HS.out
 ·-- an Ins
  obtain ⟨W2,hW2⟩ : ∃ W2,W2=(w.alloc (.cells #[.int .i64 1,.int .i64 (p:Int),.int .i32 ch,.int .u32 x,.int .u64 y] 47)).alloc (.cells #[.int .i64 0,.int .i64 0,.int .i32 0,.int .u32 0,.int .u64 0] 47):=⟨_,rfl⟩
  have hb2:Below w.heap.size w W2:=by rw [hW2];exact below_alloc (below_box _ _) _
  have hs2:W2.heap.size=w.heap.size + 2:=by rw [hW2];simp
  have hu:UAt W2 w.heap.size 1 (p:Int) ch x y:=by rw [hW2];exact (uat_new w 1 (p:Int) ch x y).alloc _
  have hr:UAt W2 (w.heap.size + 1) 0 0 0 0 0:=by rw [hW2];exact heap_new (by simp)
  obtain ⟨W3,hW3⟩ : ∃ W3,W3=W2.alloc (.cells #[.int .i32 ch] 41):=⟨_,rfl⟩
  have hb3:Below W2.heap.size W2 W3:=by rw [hW3];exact below_box _ _
  have hs3:W3.heap.size=w.heap.size + 3:=by rw [hW3];simp [hs2]
  have hV:Crs W3 W3.heap.size (some ⟨W2.heap.size,0,none⟩) 1 1 [ch]:=by
   rw [hW3]
   exact (crs_lit W2 [ch] (fun y hy=>by simp at hy;rw [hy];exact may_j hmay) (by simp [maxLen])).crs.2
  have hS3:FiT W3 base pb (.slice A N c) cs:=(hS.tn (Tn.of (fun _=>False) hb2) (fun h=>h) (fun g _ h=>h)).tn (Tn.of (fun _=>False) hb3) (fun h=>h) (fun g _ h=>h)
  have ho3:OwnC W3 base (.slice A N c) cs:=OwnC.then_ (OwnC.then_ ho hb2) hb3
  have HI:=Lib.hid (insC_any W3 base A N c cs ho3 hS3.le p (by omega) _ 1 1 [ch] hV (fun _ g hg ad had e=>by cases had;have:=(ho.lt g hg).2;simp only at e;omega) (by omega))
  have hcp2:=hS3.cell.cell
  have hcp1:(W2).cell? ⟨pb,0,none⟩=some (.slice A N c):=(hS.cell.tn (Tn.of (fun _=>False) hb2) (fun h=>h)).cell
  have hcp0:(w.alloc (.cells #[.int .i64 1,.int .i64 (p:Int),.int .i32 ch,.int .u32 x,.int .u64 y] 47)).cell? ⟨pb,0,none⟩=some (.slice A N c):=(hS.cell.tn (Tn.of (fun _=>False) (below_box _ _)) (fun h=>h)).cell
  have HU3:=Lib.hid (hu.then_ hb3)
  have HR3:=Lib.hid (hr.then_ hb3)
  have HS3:=Lib.hid hS3
  have HT3:=Lib.hid (Tn.trans (Tn.of (fun b=>b=pb∨Value.ownBlock (.slice A N c)=some b) hb2) (Tn.of (fun _=>False) hb3) (fun b _ h=>h.elim))
  have HS:=Lib.hid hS
  have HOW:=Lib.hid ho.lt
  have HSZ:=Lib.hid hs3
  have hinl:cs.take p ++ [ch] ++ cs.drop p=Pl.behind ⟨1,(p:Int),ch,x,y⟩ cs:=by rw [Pl.behind_ins];unfold Pl.insL;simp
  have hl2:(Pl.behind ⟨1,(p:Int),ch,x,y⟩ cs).length=N + 1:=by rw [Pl.behind_ins,Pl.len_insL (by omega)];omega
  rw [hinl,show W2.heap.size=w.heap.size + 1 + 1 from hs2] at HI
  obtain ⟨T2,hT2⟩ : ∃ T2,T2=Pl.behind ⟨1,(p:Int),ch,x,y⟩ cs:=⟨_,rfl⟩
  rw [← hT2] at HI hl2
  have HT2:=Lib.hid hT2
  have HL2:=Lib.hid hl2
  have HW:=Lib.hid (hW3.trans (by rw [hW2]))
  have z2:(0:Int)≤(p:Int):=Int.natCast_nonneg p
  rw [hW2] at hcp1
  unfold uval
  simp only
  clear hS ho hS3 ho3 hu hr hb2 hb3 hV hs2 hs3 hW3 hinl hT2 hl2 hf hW2 hN
  go_enter Tryz.func205,Tryz.ntmps205
  go_wp2_with fail
  rw [← HW.out]
  refine HI.out.mono ?_
  rintro e w7 ⟨A7,c7,rfl,ho7,ht7,hg7⟩
  have hlt:=fun g hg=>(HOW.out g hg).2
  have hsz:=HSZ.out
  have hin7:InC w7 pb (.slice A N c):=HS3.out.cell.tn ht7 (fun h=>HNE.out pb h rfl)
  have hu7:UAt w7 w.heap.size 1 (p:Int) ch x y:=UAt.tn HU3.out ht7 (fun h=>by have:=hlt _ h;omega)
  have hr7:UAt w7 (w.heap.size + 1) 0 0 0 0 0:=UAt.tn HR3.out ht7 (fun h=>by have:=hlt _ h;omega)
  have hne7:∀ g,Value.ownBlock (.slice A7 (N + 1) c7)=some g→g≠pb:=fun g hg e=>by
   rcases hg7 g hg with h | h
   ·exact HNE.out g h e
   ·omega
  have hf7:=hin7.frozen
  have hc7:=hin7.cell
  have HIN:=Lib.hid hin7
  have HU7:=Lib.hid hu7
  have HO7:=Lib.hid ho7
  have HN7:=Lib.hid hne7
  have HG7:=Lib.hid hg7
  have HT7:=Lib.hid (HT3.out.trans ht7 (fun b _ h=>Or.inr h))
  have hr8:UAt (w7.setCell ⟨pb,0,none⟩ (.slice A7 (N + 1) c7)) (w.heap.size + 1) 0 0 0 0 0:=hr7.far (q:=⟨pb,0,none⟩) (by simp only;omega) _
  have hu8:UAt (w7.setCell ⟨pb,0,none⟩ (.slice A7 (N + 1) c7)) w.heap.size 1 (p:Int) ch x y:=hu7.far (q:=⟨pb,0,none⟩) (by simp only;omega) _
  obtain ⟨a0,a1,a2,a3,a4⟩:=hu8.cells
  obtain ⟨r0,r1,r2,r3,r4⟩:=hr8.cells
  have rf:=fun j=>hr8.frozen j
  have HR8:=Lib.hid hr8
  clear hin7 hu7 hr7 ho7 hne7 hu8 hr8 ht7 hg7 HI hcp0 hcp1 hcp2 hsz
  go_wp2_with fail
  refine bodyPost_ret (results_unit rfl (by rfl) (HR8.out.sets 1 (p:Int) ch x y)) rfl ⟨rfl,.slice A7 (N + 1) c7,⟨?_,⟨A7,c7,?_,?_⟩,?_,?_⟩,tn_five (i:=0) (HT7.out.set_ (p:=⟨pb,0,none⟩) (Or.inr (Or.inl rfl)) _) (Or.inl (by omega)) _ _ _ _ _,?_⟩
  ·exact (HIN.out.set_ (.slice A7 (N + 1) c7)).tn (T:=fun b=>b=w.heap.size + 1) (tn_five (T:=fun b=>b=w.heap.size + 1) (i:=0) (Tn.refl _ _) (Or.inr rfl) _ _ _ _ _) (by omega)
  ·rw [← HT2.out,HL2.out]
  ·rw [← HT2.out,HL2.out]
   refine (HO7.out.tn (T:=fun b=>b=pb) ((Tn.refl (fun b=>b=pb) w7).set_ (p:=⟨pb,0,none⟩) (Or.inr rfl) _) (fun g hg e=>HN7.out g hg e)).tn (T:=fun b=>b=w.heap.size + 1) (tn_five (T:=fun b=>b=w.heap.size + 1) (i:=0) (Tn.refl _ _) (Or.inr rfl) _ _ _ _ _) (fun g hg e=>?_)
   rcases HG7.out g hg with h | h
   ·have:=hlt g h;omega
   ·have:=HSZ.out;omega
  ·exact fun h=>HN7.out pb h rfl
  ·exact Nat.le_trans HS.out.le (tn_five (i:=0) (HT7.out.set_ (p:=⟨pb,0,none⟩) (Or.inr (Or.inl rfl)) _) (Or.inl (by omega)) _ _ _ _ _).size
  ·exact fun g hg=>(HG7.out g hg).imp id (fun h=>by have:=HSZ.out;omega)
 ·-- a Del
  have hp0:p<N:=by omega
  obtain ⟨g0,rfl,_⟩:=OwnC.pos_ ho (by omega)
  obtain ⟨z,hz⟩ : ∃ z,z=cs.getD p 0:=⟨_,rfl⟩
  have HZ:=Lib.hid hz
  obtain ⟨W2,hW2⟩ : ∃ W2,W2=(w.alloc (.cells #[.int .i64 2,.int .i64 (p:Int),.int .i32 ch,.int .u32 x,.int .u64 y] 47)).alloc (.cells #[.int .i64 0,.int .i64 0,.int .i32 0,.int .u32 0,.int .u64 0] 47):=⟨_,rfl⟩
  have hb2:Below w.heap.size w W2:=by rw [hW2];exact below_alloc (below_box _ _) _
  have hu2:UAt W2 w.heap.size 2 (p:Int) ch x y:=by rw [hW2];exact (uat_new w 2 (p:Int) ch x y).alloc _
  have ho2:OwnC W2 base (.slice (some ⟨g0,0,none⟩) N c) cs:=OwnC.then_ ho hb2
  have hzc:W2.cell? ⟨g0,p,none⟩=some (.int .i32 z):=by
   obtain ⟨g',o',e,_,hc⟩:=(ho2.crs.2).at_ hp0
   cases e
   have:=hc p hp0
   rw [Nat.zero_add] at this
   rw [hz];exact this
  have hcp2:W2.cell? ⟨pb,0,none⟩=some (.slice (some ⟨g0,0,none⟩) N c):=(hS.cell.tn (Tn.of (fun _=>False) hb2) (fun h=>h)).cell
  obtain ⟨u0,u1,u2,u3,u4⟩:=hu2.cells
  have uf:=fun j=>hu2.frozen j
  rw [hW2] at hzc hcp2 u0 u1 u2 u3 u4
  simp only [hW2] at uf
  obtain ⟨W3,hW3⟩ : ∃ W3,W3=(w.alloc (.cells #[.int .i64 2,.int .i64 (p:Int),.int .i32 z,.int .u32 x,.int .u64 y] 47)).alloc (.cells #[.int .i64 0,.int .i64 0,.int .i32 0,.int .u32 0,.int .u64 0] 47):=⟨_,rfl⟩
  have hb3:Below w.heap.size w W3:=by rw [hW3];exact below_alloc (below_box _ _) _
  have hs3:W3.heap.size=w.heap.size + 2:=by rw [hW3];simp
  have hu:UAt W3 w.heap.size 2 (p:Int) z x y:=by rw [hW3];exact (uat_new w 2 (p:Int) z x y).alloc _
  have hr:UAt W3 (w.heap.size + 1) 0 0 0 0 0:=by rw [hW3];exact heap_new (by simp)
  have hS3:FiT W3 base pb (.slice (some ⟨g0,0,none⟩) N c) cs:=hS.tn (Tn.of (fun _=>False) hb3) (fun h=>h) (fun g _ h=>h)
  have ho3:OwnC W3 base (.slice (some ⟨g0,0,none⟩) N c) cs:=OwnC.then_ ho hb3
  have HI:=Lib.hid (delC_any W3 base (some ⟨g0,0,none⟩) N c cs ho3 p 1 (by omega))
  have hcp3:=hS3.cell.cell
  obtain ⟨v0,v1,v2,v3,v4⟩:=hu.cells
  have HU3:=Lib.hid hu
  have HR3:=Lib.hid hr
  have HS3:=Lib.hid hS3
  have HT3:=Lib.hid (Tn.of (fun b=>b=pb∨Value.ownBlock (.slice (some ⟨g0,0,none⟩) N c)=some b) hb3)
  have HS:=Lib.hid hS
  have HOW:=Lib.hid ho.lt
  have HSZ:=Lib.hid hs3
  have hdel:cs.take p ++ cs.drop (p + 1)=Pl.behind ⟨2,(p:Int),ch,x,y⟩ cs:=by rw [Pl.behind_del];unfold Pl.delL;simp
  have hl2:(Pl.behind ⟨2,(p:Int),ch,x,y⟩ cs).length=N - 1:=by
   have:=Pl.len_delL (p:=p) (l:=cs) (by omega)
   rw [Pl.behind_del];omega
  rw [hdel] at HI
  obtain ⟨T2,hT2⟩ : ∃ T2,T2=Pl.behind ⟨2,(p:Int),ch,x,y⟩ cs:=⟨_,rfl⟩
  rw [← hT2] at HI hl2
  have HT2:=Lib.hid hT2
  have HL2:=Lib.hid hl2
  have HW:=Lib.hid hW3
  have HF:=Lib.hid (getD_fill x y p ch cs)
  rw [← hz] at HF
  unfold uval
  simp only
  have z2:(0:Int)≤(p:Int):=Int.natCast_nonneg p
  have z3:(p:Int)<(N:Int):=Int.ofNat_lt.2 hp0
  have hw1:wrap64 ((p:Int) + 1)=((p + 1:Nat):Int):=by unfold wrap64;omega
  rw [hW3] at hcp3 v0 v1 v2 v3 v4
  clear hN hz hW2 hW3 hS hS3 ho ho2 ho3 hu hu2 hr hb2 hb3 hs3 hdel hT2 hl2 hf
  go_enter Tryz.func205,Tryz.ntmps205
  go_wp2_with fail
  rw [← HW.out]
  try rw [hw1]
  refine HI.out.mono ?_
  rintro e w7 ⟨A7,c7,rfl,ho7,ht7,hg7⟩
  have hlt:=fun g hg=>(HOW.out g hg).2
  have hsz:=HSZ.out
  have hin7:InC w7 pb (.slice (some ⟨g0,0,none⟩) N c):=HS3.out.cell.tn ht7 (fun h=>HNE.out pb h rfl)
  have hu7:UAt w7 w.heap.size 2 (p:Int) z x y:=UAt.tn HU3.out ht7 (fun h=>by have:=hlt _ h;omega)
  have hr7:UAt w7 (w.heap.size + 1) 0 0 0 0 0:=UAt.tn HR3.out ht7 (fun h=>by have:=hlt _ h;omega)
  have hne7:∀ g,Value.ownBlock (.slice A7 (N - 1) c7)=some g→g≠pb:=fun g hg e=>by
   rcases hg7 g hg with h | h
   ·exact HNE.out g h e
   ·omega
  have hf7:=hin7.frozen
  have hc7:=hin7.cell
  have HIN:=Lib.hid hin7
  have HO7:=Lib.hid ho7
  have HN7:=Lib.hid hne7
  have HG7:=Lib.hid hg7
  have HT7:=Lib.hid (HT3.out.trans ht7 (fun b _ h=>Or.inr h))
  have hr8:UAt (w7.setCell ⟨pb,0,none⟩ (.slice A7 (N - 1) c7)) (w.heap.size + 1) 0 0 0 0 0:=hr7.far (q:=⟨pb,0,none⟩) (by simp only;omega) _
  have hu8:UAt (w7.setCell ⟨pb,0,none⟩ (.slice A7 (N - 1) c7)) w.heap.size 2 (p:Int) z x y:=hu7.far (q:=⟨pb,0,none⟩) (by simp only;omega) _
  obtain ⟨a0,a1,a2,a3,a4⟩:=hu8.cells
  obtain ⟨r0,r1,r2,r3,r4⟩:=hr8.cells
  have rf:=fun j=>hr8.frozen j
  have HR8:=Lib.hid hr8
  clear hin7 hu7 hr7 ho7 hne7 hu8 hr8 ht7 hg7 HI hcp2 hcp3 hzc u0 u1 u2 u3 u4 uf v0 v1 v2 v3 v4 hsz
  go_wp2_with fail
  refine bodyPost_ret (results_unit rfl (by rfl) (HR8.out.sets 2 (p:Int) z x y)) rfl ⟨?_,.slice A7 (N - 1) c7,⟨?_,⟨A7,c7,?_,?_⟩,?_,?_⟩,tn_five (i:=0) (HT7.out.set_ (p:=⟨pb,0,none⟩) (Or.inr (Or.inl rfl)) _) (Or.inl (by omega)) _ _ _ _ _,?_⟩
  ·rw [HF.out]
  ·exact (HIN.out.set_ (.slice A7 (N - 1) c7)).tn (T:=fun b=>b=w.heap.size + 1) (tn_five (T:=fun b=>b=w.heap.size + 1) (i:=0) (Tn.refl _ _) (Or.inr rfl) _ _ _ _ _) (by omega)
  ·rw [← HT2.out,HL2.out]
  ·rw [← HT2.out,HL2.out]
   refine (HO7.out.tn (T:=fun b=>b=pb) ((Tn.refl (fun b=>b=pb) w7).set_ (p:=⟨pb,0,none⟩) (Or.inr rfl) _) (fun g hg e=>HN7.out g hg e)).tn (T:=fun b=>b=w.heap.size + 1) (tn_five (T:=fun b=>b=w.heap.size + 1) (i:=0) (Tn.refl _ _) (Or.inr rfl) _ _ _ _ _) (fun g hg e=>?_)
   rcases HG7.out g hg with h | h
   ·have:=hlt g h;omega
   ·have:=HSZ.out;omega
  ·exact fun h=>HN7.out pb h rfl
  ·exact Nat.le_trans HS.out.le (tn_five (i:=0) (HT7.out.set_ (p:=⟨pb,0,none⟩) (Or.inr (Or.inl rfl)) _) (Or.inl (by omega)) _ _ _ _ _).size
  ·exact fun g hg=>(HG7.out g hg).imp id (fun h=>by have:=HSZ.out;omega)
open Go.RowKit
open Pl (Un)
theorem callFil (args:Array Value) (w:World):(callFunc 205 args).run Tryz.prog w=.ok (.enter 205 args) w:=by simp [go_sem]
theorem fill_outs (l:List Un) (cs:List Int):(List.range l.length).map (fun j=>Pl.fillU (l.getD j default) (Pl.leave (l.take j) cs))=Pl.fillL l cs:=by
 induction l generalizing cs with
 | nil=>rfl
 | cons u l ih =>
  rw [List.length_cons,List.range_succ_eq_map,List.map_cons,List.map_map]
  show Pl.fillU u cs :: _=Pl.fillU u cs :: Pl.fillL l (Pl.behind u cs)
  rw [← ih (Pl.behind u cs)]
  rfl
def FiSt (base pb:Nat) (l:List Un) (cs:List Int) (j:Nat) (X:Nat→Prop) (w:World):Prop :=
 ∃ V:Value,(X=fun b=>b=pb∨V.ownBlock=some b)∧FiT w base pb V (Pl.leave (l.take j) cs)
set_option maxHeartbeats 400000 in
theorem fill_any (B:Option Addr) (m d:Nat) (l:List Un) (A:Option Addr) (n c:Nat) (cs:List Int) (w:World) (h2:Uns w w.heap.size B m d l) (h1:Crs w w.heap.size A n c cs) (hm:m≤1000) (hn:n≤90000) (hf:Pl.FitR l cs) :
  Calls Tryz.prog 152 #[.slice B m d,.slice A n c] w fun e w'=>∃ A' c',e=.returned (.tuple #[.slice A' l.length c',.int .i64 0])∧OwnU w' w.heap.size (.slice A' l.length c') (Pl.fillL l cs)∧Below w.heap.size w w':=by
 obtain ⟨W1,hW1⟩ : ∃ W1,W1=w.alloc (.cells #[.slice A n c] 33):=⟨_,rfl⟩
 have hb1:Below w.heap.size w W1:=by rw [hW1];exact below_box _ _
 have hs1:W1.heap.size=w.heap.size + 1:=by rw [hW1];simp
 have hin:InC W1 w.heap.size (.slice A n c):=by rw [hW1];exact heap_new rfl
 have hlong:=long_any B m d l (n:Int) W1 (Rws.then_ h2 hb1) hm (by omega)
 rw [show Pl.longL l (n:Int)=(((Pl.leave l cs).length:Int),0) by rw [← h1.len];exact Pl.longL_fit hf] at hlong
 simp only at hlong
 have HL:=Lib.hid hlong
 have HC:=Lib.hid (h1.then_ hb1)
 have HU:=Lib.hid h2
 have HF:=Lib.hid hf
 have HNL:=Lib.hid h1.len
 have HML:=Lib.hid h2.len
 have HB1:=Lib.hid hb1
 have HIN:=Lib.hid hin
 have HSZ:=Lib.hid hs1
 have HW1:=Lib.hid hW1
 clear h1 h2 hf hlong hb1 hin hs1 hW1
 go_enter Tryz.func152,Tryz.ntmps152
 go_wp2_with fail
 rw [show w.alloc (.cells #[.slice A n c] 33)=W1 from HW1.out.symm]
 refine HL.out.mono ?_
 rintro e w2 ⟨rfl,hb⟩
 have hi2:=HIN.out.tn (Tn.of (fun _=>False) hb) (fun h=>h)
 have HI2:=Lib.hid hi2
 have hc2:=hi2.cell
 have HB2:=Lib.hid (below_then' HB1.out hb HB1.out.size)
 have HS2:=Lib.hid hb.size
 have HCL:=Lib.hid (cloneC_any A n c cs w2 (HC.out.then_ hb) (by omega))
 clear hb hi2
 go_wp2_with fail
 refine HCL.out.mono ?_
 rintro e w3 ⟨A3,c3,rfl,ho,hb⟩
 have hi3:=HI2.out.tn (Tn.of (fun _=>False) hb) (fun h=>h)
 have hc3:=hi3.cell
 have hf3:=hi3.frozen
 have hs3:=HSZ.out
 have hs2:=HS2.out
 have hpn:Value.ownBlock (.slice A3 cs.length c3)≠some w.heap.size:=fun h=>by have:=(ho.lt _ h).1;omega
 have hb4:=(below_then' HB2.out hb HB2.out.size).setCell (p:=⟨w.heap.size,0,none⟩) (Nat.le_refl _) (.slice A3 cs.length c3)
 obtain ⟨W4,hW4⟩ : ∃ W4,W4=w3.setCell ⟨w.heap.size,0,none⟩ (.slice A3 cs.length c3):=⟨_,rfl⟩
 rw [← hW4] at hb4
 have ho4:OwnC W4 w.heap.size (.slice A3 cs.length c3) cs:=by
  rw [hW4]
  exact (ho.tn (T:=fun b=>b=w.heap.size) ((Tn.refl (fun b=>b=w.heap.size) w3).set_ (p:=⟨w.heap.size,0,none⟩) (Or.inr rfl) _) (fun g hg e=>hpn (by rw [hg,e]))).lower (by omega)
 have hi4:InC W4 w.heap.size (.slice A3 cs.length c3):=by rw [hW4];exact hi3.set_ _
 have hst:FiT W4 w.heap.size w.heap.size (.slice A3 cs.length c3) cs:=⟨hi4,⟨A3,c3,rfl,ho4⟩,hpn,hb4.size⟩
 have HT:=Lib.hid (turn_any 205 #[.pointer (some ⟨w.heap.size,0,none⟩)] callFil B m d l W4 (Rws.then_ HU.out hb4) hm (FiSt w.heap.size w.heap.size l cs) (fun j=>Pl.fillU (l.getD j default) (Pl.leave (l.take j) cs)) (fun b=>b=w.heap.size∨Value.ownBlock (.slice A3 cs.length c3)=some b)
  (fun j X wr hj ⟨V,hX,hS⟩=>by
   have hlen:=fitR_len HF.out j
   have:=HNL.out
   have:=HML.out
   refine (fillC_any (l.getD j default) (Pl.leave (l.take j) cs) V w.heap.size w.heap.size wr hS (Pl.fit_take l cs HF.out j _ (getD_of_get hj)) (by omega)).mono ?_
   rintro e w' ⟨rfl,V',hS',ht',hg'⟩
   refine ⟨rfl,_,⟨V',rfl,by rw [Pl.leave_take l cs j _ (getD_of_get hj)];exact hS'⟩,by rw [hX];exact ht',?_⟩
   rw [hX]
   rintro b (h | h)
   ·exact Or.inl (Or.inl h)
   ·exact (hg' b h).imp Or.inr id)
  (fun j X Y wr w' ⟨V,hX,hS⟩ ht hd=>⟨V,hX,hS.tn ht (fun h=>hd _ h (by rw [hX];exact Or.inl rfl)) (fun g hg h=>hd _ h (by rw [hX];exact Or.inr hg))⟩)
  ⟨_,rfl,hst⟩ (fun b hb=>by
   rcases hb with rfl | h
   ·exact hi4.lt
   ·exact (ho4.lt b h).2))
 have HB4:=Lib.hid hb4
 have HO4:=Lib.hid ho4.lt
 have HW4:=Lib.hid hW4
 clear ho hb hi3 hpn hb4 hW4 ho4 hi4 hst hs2 hs3 HCL
 go_wp2_with fail
 rw [← HW4.out]
 refine HT.out.mono ?_
 rintro e w5 ⟨A5,c5,rfl,ho5,_,ht5⟩
 rw [fill_outs] at ho5
 have HO:=Lib.hid (OwnR.lower ho5 HB4.out.size)
 have HB5:=Lib.hid (show Below w.heap.size w w5 from ht5.below HB4.out HB4.out.size (fun b hb=>by
  rcases hb with h | h
  ·omega
  ·exact (HO4.out b h).1))
 clear ho5 ht5 HT hc3 hf3
 go_wp2_with fail
 go_returns
 exact ⟨A5,c5,rfl,HO.out,HB5.out⟩
set_option maxHeartbeats 400000 in
theorem fill_bad (B:Option Addr) (m d:Nat) (l:List Un) (A:Option Addr) (n c:Nat) (w:World) (h2:Uns w w.heap.size B m d l) (hm:m≤1000) (hn:n≤90000) (E N:Int) (hf:Pl.longL l (n:Int)=(N,E)) (hE:E≠0) :
  Calls Tryz.prog 152 #[.slice B m d,.slice A n c] w fun e w'=>e=.returned (.tuple #[.slice none 0 0,.int .i64 E])∧Below w.heap.size w w':=by
 obtain ⟨W1,hW1⟩ : ∃ W1,W1=w.alloc (.cells #[.slice A n c] 33):=⟨_,rfl⟩
 have hb1:Below w.heap.size w W1:=by rw [hW1];exact below_box _ _
 have hlong:=long_any B m d l (n:Int) W1 (Rws.then_ h2 hb1) hm (by omega)
 rw [hf] at hlong
 simp only at hlong
 have HL:=Lib.hid hlong
 have HB1:=Lib.hid hb1
 have HW1:=Lib.hid hW1
 have hEb:(E != 0)=true:=by simpa using hE
 clear h2 hf hlong hb1 hW1
 go_enter Tryz.func152,Tryz.ntmps152
 go_wp2_with fail
 rw [show w.alloc (.cells #[.slice A n c] 33)=W1 from HW1.out.symm]
 refine HL.out.mono ?_
 rintro e w2 ⟨rfl,hb⟩
 have HB2:=Lib.hid (below_then' HB1.out hb HB1.out.size)
 clear hb
 go_wp2_with fail
 go_returns
 exact ⟨rfl,HB2.out⟩
set_option maxHeartbeats 400000 in
theorem back_any (A:Option Addr) (n c:Nat) (l:List Un) (x y:Int) (B:Option Addr) (d:Nat) (R:List RowV) (w:World) (h1:Uns w w.heap.size A n c l) (h2:RowsV w B R) (hn:n≤1000) (hR:R.length≤1000) :
  Calls Tryz.prog 107 #[.slice A n c,.agg #[.int .u32 x,.int .u64 y],.slice B R.length d] w (RetU w (Pl.cleanL (Pl.pastR (Pl.invR x y l) (R.map RowV.l)))):=by
 obtain ⟨W1,hW1⟩ : ∃ W1,W1=w.alloc (.cells #[.int .u32 x,.int .u64 y] 43):=⟨_,rfl⟩
 have hb1:Below w.heap.size w W1:=by rw [hW1];exact below_box _ _
 have HL:=Lib.hid h1.len
 have HI:=Lib.hid (inverse_any A n c l x y W1 (Rws.then_ h1 hb1) hn)
 have HR1:=Lib.hid (RowsV.then_ h2 hb1)
 have HB1:=Lib.hid hb1
 have HW1:=Lib.hid hW1
 clear h1 h2 hb1 hW1
 go_enter Tryz.func107,Tryz.ntmps107
 go_wp2_with fail
 rw [show w.alloc (.cells #[.int .u32 x,.int .u64 y] 43)=W1 from HW1.out.symm]
 refine HI.out.mono ?_
 rintro e w2 ⟨A2,c2,rfl,ho,hb⟩
 have hil:(Pl.invR x y l).length=n:=by rw [Pl.inv_len];exact HL.out
 have HB2:=Lib.hid (below_then' HB1.out hb HB1.out.size)
 have HP:=Lib.hid (past_any A2 _ c2 (Pl.invR x y l) B d R w2 (OwnU.uns ho) (RowsV.then_ HR1.out hb) (by omega) hR)
 have HIL:=Lib.hid hil
 clear ho hb hil HI
 go_wp2_with fail
 refine HP.out.mono ?_
 rintro e w3 ⟨A3,c3,rfl,ho,hb⟩
 have HB3:=Lib.hid (below_then' HB2.out hb HB2.out.size)
 have hpl:(Pl.pastR (Pl.invR x y l) (R.map RowV.l)).length≤1000:=by rw [len_pastR,HIL.out];exact hn
 have HC:=Lib.hid (clean_any A3 _ c3 (Pl.pastR (Pl.invR x y l) (R.map RowV.l)) w3 (OwnU.uns ho) hpl)
 clear ho hb hpl HP
 go_wp2_with fail
 refine HC.out.mono ?_
 rintro e w4 ⟨A4,c4,rfl,ho,hb⟩
 have HO:=Lib.hid (OwnR.lower ho HB3.out.size)
 have HB4:=Lib.hid (below_then' HB3.out hb HB3.out.size)
 clear ho hb HC
 go_wp2_with fail
 go_ret
 exact ⟨A4,c4,rfl,HO.out,HB4.out⟩
open Go.RowKit
open Pl (Un)
structure DocM (w:World) (D pa tx ls mk:Nat) (k:Nat→Nat) (N:Int) (d:Pl.Dc) (m:Nat):Prop where
 blk:w.heap[D]?=some (.cells #[.int .u64 (d.t:Int),.pointer (some ⟨pa,0,none⟩),.pointer (some ⟨tx,0,none⟩),.pointer (some ⟨ls,0,none⟩),.pointer (some ⟨mk,0,none⟩)] 87 (0,0))
 past:PastAt w pa (fun b=>k b=2) d.fr d.n d.P
 tab:∃ t,Tbl.Tb w (fun b=>k b=3) tx t m∧t.text=d.cs
 les:∃ lb,Ls.LeasesW w ls lb d.L∧k lb=6
 mks:∃ mb,MarksW w mk mb N d.M∧k mb=8
 kD:k D=1
 kp:k pa=4
 kl:k ls=5
 km:k mk=7
 lt:∀ b,k b≠0→b<w.heap.size
structure Mv (k:Nat→Nat) (w:World) (k':Nat→Nat) (w':World):Prop where
 tn:Tn (fun b=>k b≠0) w w'
 eq:∀ b,b<w.heap.size→k' b=k b
section
variable {w w' w1:World} {D pa tx ls mk m:Nat} {k k' k1:Nat→Nat} {N:Int} {d:Pl.Dc} {T:Nat→Prop}
theorem Mv.refl (k:Nat→Nat) (w:World):Mv k w k w:=⟨Tn.refl _ _,fun _ _=>rfl⟩
theorem Mv.of (k:Nat→Nat) (hb:Below w.heap.size w w'):Mv k w k w':=⟨Tn.of _ hb,fun _ _=>rfl⟩
theorem Mv.trans (h:Mv k w k1 w1) (h':Mv k1 w1 k' w'):Mv k w k' w' :=
 ⟨h.tn.trans h'.tn fun b hb hn=>by rw [h.eq b hb] at hn;exact hn,fun b hb=>(h'.eq b (Nat.lt_of_lt_of_le hb h.tn.size)).trans (h.eq b hb)⟩
theorem Mv.then_ (h:Mv k w k1 w1) (hb:Below w1.heap.size w1 w'):Mv k w k1 w':=h.trans (Mv.of k1 hb)
theorem Mv.no (h:Mv k w k' w') {b:Nat} (hb:b<w.heap.size) (hk:k b=0):k' b=0:=(h.eq b hb).trans hk
theorem Mv.old (h:Mv k w k' w') {b:Nat} {o:Obj} (hb:w.heap[b]?=some o) (hk:k b=0):w'.heap[b]?=some o:=h.tn.old hb fun hn=>hn hk
theorem DocM.tn (h:DocM w D pa tx ls mk k N d m) (ht:Tn T w w') (hT:∀ b,k b≠0→¬ T b):DocM w' D pa tx ls mk k N d m:=by
 obtain ⟨t,h1,h2⟩:=h.tab
 obtain ⟨lb,h3,h4⟩:=h.les
 obtain ⟨mb,h5,h6⟩:=h.mks
 have hz:∀ {b c:Nat},k b=c→c≠0→¬ T b:=fun e hc=>hT _ (by rw [e];exact hc)
 exact ⟨ht.old h.blk (hz h.kD (by decide)),h.past.tn ht (fun b hb=>hz hb (by decide)) (hz h.kp (by decide)),⟨t,h1.keep ht fun b hb=>hz hb (by decide),h2⟩,
  ⟨lb,h3.tn ht (hz h.kl (by decide)) (hz h4 (by decide)),h4⟩,⟨mb,h5.tn ht (hz h.km (by decide)) (hz h6 (by decide)),h6⟩,h.kD,h.kp,h.kl,h.km,fun b hb=>Nat.lt_of_lt_of_le (h.lt b hb) ht.size⟩
theorem DocM.then_ (h:DocM w D pa tx ls mk k N d m) (hb:Below w.heap.size w w'):DocM w' D pa tx ls mk k N d m:=h.tn (Tn.of (fun _=>False) hb) fun _ _ h=>h
theorem DocM.cells (h:DocM w D pa tx ls mk k N d m):w.cell? ⟨D,0,none⟩=some (.int .u64 (d.t:Int))∧w.cell? ⟨D,1,none⟩=some (.pointer (some ⟨pa,0,none⟩))∧w.cell? ⟨D,2,none⟩=some (.pointer (some ⟨tx,0,none⟩))∧w.cell? ⟨D,3,none⟩=some (.pointer (some ⟨ls,0,none⟩))∧w.cell? ⟨D,4,none⟩=some (.pointer (some ⟨mk,0,none⟩)) :=
 ⟨by rw [cell_of_row w D 0 _ _ _ h.blk];rfl,by rw [cell_of_row w D 1 _ _ _ h.blk];rfl,by rw [cell_of_row w D 2 _ _ _ h.blk];rfl,by rw [cell_of_row w D 3 _ _ _ h.blk];rfl,by rw [cell_of_row w D 4 _ _ _ h.blk];rfl⟩
theorem DocM.frozen (h:DocM w D pa tx ls mk k N d m) (j:Nat):w.frozen? ⟨D,j,none⟩=false:=frozen_of_row w D j _ _ h.blk
theorem DocM.setL (h:DocM w D pa tx ls mk k N d m) {L':Pl.Mks} {lb:Nat} (h4:k lb=6) (h7:Ls.LeasesW w' ls lb L') (ht:Tn (fun i=>i=lb) w w'):DocM w' D pa tx ls mk k N { d with L:=L' } m∧Mv k w k w':=by
 obtain ⟨t,h1,h2⟩:=h.tab
 obtain ⟨mb,h5,h6⟩:=h.mks
 have hz:∀ {b c:Nat},k b=c→c≠6→¬ b=lb:=fun e hc he=>hc (by rw [← e,he,h4])
 exact ⟨⟨ht.old h.blk (hz h.kD (by decide)),h.past.tn ht (fun b hb=>hz hb (by decide)) (hz h.kp (by decide)),⟨t,h1.keep ht fun b hb=>hz hb (by decide),h2⟩,
  ⟨lb,h7,h4⟩,⟨mb,h5.tn ht (hz h.km (by decide)) (hz h6 (by decide)),h6⟩,h.kD,h.kp,h.kl,h.km,fun b hb=>Nat.lt_of_lt_of_le (h.lt b hb) ht.size⟩,
  ht.more fun b _ e=>by rw [e,h4];decide,fun _ _=>rfl⟩
theorem DocM.setM (h:DocM w D pa tx ls mk k N d m) {M':Pl.Mks} {mb:Nat} (h6:k mb=8) (h7:MarksW w' mk mb N M') (ht:Tn (fun i=>i=mb) w w'):DocM w' D pa tx ls mk k N { d with M:=M' } m∧Mv k w k w':=by
 obtain ⟨t,h1,h2⟩:=h.tab
 obtain ⟨lb,h3,h4⟩:=h.les
 have hz:∀ {b c:Nat},k b=c→c≠8→¬ b=mb:=fun e hc he=>hc (by rw [← e,he,h6])
 exact ⟨⟨ht.old h.blk (hz h.kD (by decide)),h.past.tn ht (fun b hb=>hz hb (by decide)) (hz h.kp (by decide)),⟨t,h1.keep ht fun b hb=>hz hb (by decide),h2⟩,
  ⟨lb,h3.tn ht (hz h.kl (by decide)) (hz h4 (by decide)),h4⟩,⟨mb,h7,h6⟩,h.kD,h.kp,h.kl,h.km,fun b hb=>Nat.lt_of_lt_of_le (h.lt b hb) ht.size⟩,
  ht.more fun b _ e=>by rw [e,h6];decide,fun _ _=>rfl⟩
theorem DocM.setT (h:DocM w D pa tx ls mk k N d m) (t':Nat):DocM (w.setCell ⟨D,0,none⟩ (.int .u64 (t':Int))) D pa tx ls mk k N { d with t:=t' } m∧Mv k w k (w.setCell ⟨D,0,none⟩ (.int .u64 (t':Int))):=by
 obtain ⟨t,h1,h2⟩:=h.tab
 obtain ⟨lb,h3,h4⟩:=h.les
 obtain ⟨mb,h5,h6⟩:=h.mks
 have ht:Tn (fun b=>b=D) w (w.setCell ⟨D,0,none⟩ (.int .u64 (t':Int))):=(Tn.refl (fun b=>b=D) w).set_ (p:=⟨D,0,none⟩) (Or.inr rfl) _
 have hz:∀ {b c:Nat},k b=c→c≠1→¬ b=D:=fun e hc he=>hc (by rw [← e,he,h.kD])
 exact ⟨⟨blk_set h.blk _,h.past.tn ht (fun b hb=>hz hb (by decide)) (hz h.kp (by decide)),⟨t,h1.keep ht fun b hb=>hz hb (by decide),h2⟩,
  ⟨lb,h3.tn ht (hz h.kl (by decide)) (hz h4 (by decide)),h4⟩,⟨mb,h5.tn ht (hz h.km (by decide)) (hz h6 (by decide)),h6⟩,h.kD,h.kp,h.kl,h.km,fun b hb=>Nat.lt_of_lt_of_le (h.lt b hb) ht.size⟩,
  ht.more fun b _ e=>by rw [e,h.kD];decide,fun _ _=>rfl⟩
noncomputable def paint_ (k:Nat→Nat) (X:Nat→Prop) (c:Nat):Nat→Nat:=fun b=>@ite _ (X b) (Classical.propDecidable _) c (k b)
theorem paint_on {X:Nat→Prop} {c b:Nat} (h:X b):paint_ k X c b=c:=if_pos h
theorem paint_off {X:Nat→Prop} {c b:Nat} (h:¬ X b):paint_ k X c b=k b:=if_neg h
theorem paint_is {X:Nat→Prop} {c b e:Nat} (h:k b=e) (hX:¬ X b):paint_ k X c b=e:=(paint_off hX).trans h
theorem paint_lt {X:Nat→Prop} {c:Nat} (h:∀ b,k b≠0→b<w.heap.size) (hs:w.heap.size≤w'.heap.size) (hX:∀ b,X b→b<w'.heap.size):∀ b,paint_ k X c b≠0→b<w'.heap.size:=fun b hb=>by
 by_cases hx:X b
 ·exact hX b hx
 ·rw [paint_off hx] at hb;exact Nat.lt_of_lt_of_le (h b hb) hs
theorem DocM.setP (h:DocM w D pa tx ls mk k N d m) {fr':Nat} {n':Int} {P':List Pl.Op} (hp:PastAt w' pa (fun b=>k b=2∨w.heap.size≤b) fr' n' P') (ht:Tn (fun b=>b=pa) w w') :
  ∃ k',DocM w' D pa tx ls mk k' N { d with fr:=fr',n:=n',P:=P' } m∧Mv k w k' w':=by
 obtain ⟨t,h1,h2⟩:=h.tab
 obtain ⟨lb,h3,h4⟩:=h.les
 obtain ⟨mb,h5,h6⟩:=h.mks
 have hz:∀ {b c:Nat},k b=c→c≠4→¬ b=pa:=fun e hc he=>hc (by rw [← e,he,h.kp])
 have hX:∀ {b c:Nat},k b=c→c≠0→¬ (w.heap.size≤b∧b<w'.heap.size):=fun {b c} e hc hx=>by have:=h.lt b (by rw [e];exact hc);omega
 refine ⟨paint_ k (fun b=>w.heap.size≤b∧b<w'.heap.size) 2,⟨ht.old h.blk (hz h.kD (by decide)),hp.old.more (fun b hb=>?_) (by rw [paint_is h.kp (hX h.kp (by decide))];decide),⟨t,(h1.keep ht fun b hb=>hz hb (by decide)).wider (fun b hb=>paint_is hb (hX hb (by decide))) (fun b hb=>?_),h2⟩,
  ⟨lb,h3.tn ht (hz h.kl (by decide)) (hz h4 (by decide)),paint_is h4 (hX h4 (by decide))⟩,⟨mb,h5.tn ht (hz h.km (by decide)) (hz h6 (by decide)),paint_is h6 (hX h6 (by decide))⟩,
  paint_is h.kD (hX h.kD (by decide)),paint_is h.kp (hX h.kp (by decide)),paint_is h.kl (hX h.kl (by decide)),paint_is h.km (hX h.km (by decide)),paint_lt h.lt ht.size fun b hb=>hb.2⟩,
  ht.more fun b _ e=>by rw [e,h.kp];decide,fun b hb=>paint_off fun hx=>by omega⟩
 ·by_cases hx:w.heap.size≤b
  ·exact paint_on ⟨hx,hb.2⟩
  ·exact paint_is (hb.1.resolve_right hx) fun h=>hx h.1
 ·by_cases hx:w.heap.size≤b∧b<w'.heap.size
  ·exact hx.2
  ·have hb':paint_ k (fun b=>w.heap.size≤b∧b<w'.heap.size) 2 b=3:=hb
   rw [paint_off hx] at hb'
   exact Nat.lt_of_lt_of_le (h.lt b (by rw [hb'];decide)) ht.size
theorem DocM.setC (h:DocM w D pa tx ls mk k N d m) {cs':List Int} {m':Nat} {t':Tbl.Tp.Tab} (hs:Tbl.Did w (fun b=>k b=3) tx t' m' w') (h8:t'.text=cs') :
  ∃ k',DocM w' D pa tx ls mk k' N { d with cs:=cs' } m'∧Mv k w k' w':=by
 obtain ⟨lb,h3,h4⟩:=h.les
 obtain ⟨mb,h5,h6⟩:=h.mks
 obtain ⟨F',h7,ht,hF1,hF2⟩:=hs
 have hz:∀ {b c:Nat},k b=c→c≠3→¬ k b=3:=fun e hc he=>hc (by rw [← e,he])
 have hX:∀ {b c:Nat},k b=c→c≠0→¬ (F' b∧w.heap.size≤b):=fun {b c} e hc hx=>by have:=h.lt b (by rw [e];exact hc);omega
 refine ⟨paint_ k (fun b=>F' b∧w.heap.size≤b) 3,⟨ht.old h.blk (hz h.kD (by decide)),(h.past.tn ht (fun b hb=>hz hb (by decide)) (hz h.kp (by decide))).more (fun b hb=>paint_is hb (hX hb (by decide))) (by rw [paint_is h.kp (hX h.kp (by decide))];decide),⟨t',h7.wider (fun b hb=>?_) (fun b hb=>?_),h8⟩,
  ⟨lb,h3.tn ht (hz h.kl (by decide)) (hz h4 (by decide)),paint_is h4 (hX h4 (by decide))⟩,⟨mb,h5.tn ht (hz h.km (by decide)) (hz h6 (by decide)),paint_is h6 (hX h6 (by decide))⟩,
  paint_is h.kD (hX h.kD (by decide)),paint_is h.kp (hX h.kp (by decide)),paint_is h.kl (hX h.kl (by decide)),paint_is h.km (hX h.km (by decide)),paint_lt h.lt ht.size fun b hb=>h7.lt b hb.1⟩,
  ht.more fun b _ e=>by rw [e];decide,fun b hb=>paint_off fun hx=>by omega⟩
 ·by_cases hx:w.heap.size≤b
  ·exact paint_on ⟨hb,hx⟩
  ·exact paint_is ((hF1 b hb).resolve_right hx) fun h=>hx h.2
 ·by_cases hx:F' b∧w.heap.size≤b
  ·exact h7.lt b hx.1
  ·have hb':paint_ k (fun b=>F' b∧w.heap.size≤b) 3 b=3:=hb
   rw [paint_off hx] at hb'
   exact Nat.lt_of_lt_of_le (h.lt b (by rw [hb'];decide)) ht.size
theorem DocM.setG (h:DocM w D pa tx ls mk k N d m) {N':Int} {M':Pl.Mks} {b':Nat} (hb0:w.heap.size≤b') (h7:MarksW w' mk b' N' M') (ht:Tn (fun i=>i=mk) w w') :
  ∃ k',DocM w' D pa tx ls mk k' N' { d with M:=M' } m∧Mv k w k' w':=by
 obtain ⟨t,h1,h2⟩:=h.tab
 obtain ⟨lb,h3,h4⟩:=h.les
 have hz:∀ {b c:Nat},k b=c→c≠7→¬ b=mk:=fun e hc he=>hc (by rw [← e,he,h.km])
 have hX:∀ {b c:Nat},k b=c→c≠0→¬ b=b':=fun {b c} e hc hx=>by have:=h.lt b (by rw [e];exact hc);omega
 have hlt:b'<w'.heap.size:=h7.own.lt
 refine ⟨paint_ k (fun b=>b=b') 8,⟨ht.old h.blk (hz h.kD (by decide)),(h.past.tn ht (fun b hb=>hz hb (by decide)) (hz h.kp (by decide))).more (fun b hb=>paint_is hb (hX hb (by decide))) (by rw [paint_is h.kp (hX h.kp (by decide))];decide),⟨t,(h1.keep ht fun b hb=>hz hb (by decide)).wider (fun b hb=>paint_is hb (hX hb (by decide))) (fun b hb=>?_),h2⟩,
  ⟨lb,h3.tn ht (hz h.kl (by decide)) (hz h4 (by decide)),paint_is h4 (hX h4 (by decide))⟩,⟨b',h7,paint_on rfl⟩,
  paint_is h.kD (hX h.kD (by decide)),paint_is h.kp (hX h.kp (by decide)),paint_is h.kl (hX h.kl (by decide)),paint_is h.km (hX h.km (by decide)),paint_lt h.lt ht.size fun b hb=>by rw [hb];exact hlt⟩,
  ht.more fun b _ e=>by rw [e,h.km];decide,fun b hb=>paint_off fun hx=>by omega⟩
 have hb':paint_ k (fun b=>b=b') 8 b=3:=hb
 by_cases hx:b=b'
 ·have:=(paint_on (k:=k) (X:=fun b=>b=b') (c:=8) hx).symm.trans hb';cases this
 ·replace hb':=(paint_off (k:=k) (X:=fun b=>b=b') (c:=8) hx).symm.trans hb'
  exact Nat.lt_of_lt_of_le (h.lt b (by rw [hb'];decide)) ht.size
end
end Go.Proofs.YtlgdcelgkiipaaaGreat
