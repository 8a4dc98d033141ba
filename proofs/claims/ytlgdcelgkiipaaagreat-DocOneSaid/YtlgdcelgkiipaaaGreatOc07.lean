/-
  weave.Both: the grid. Conditions: rows of at most a thousand units.
  weave.Long: how long a text is behind a row. Conditions: rows of at most a thousand units; a length of at most a million.
-/
import Derived.Test.YtlgdcelgkiipaaaGreatOc06
import Derived.BigQuiet
set_option maxRecDepth 100000
set_option linter.unusedVariables false
namespace Go.Proofs.YtlgdcelgkiipaaaGreat
open Go.RowKit
open Pl (Un)
theorem eval_other {a:Act} {t d:Nat} {v:Value} (h:t≠d):(a.put (some d) v).eval (.tmp t)=a.eval (.tmp t):=by
 simp only [Act.eval,Act.put,Array.getD_eq_getD_getElem?,Array.getElem?_setIfInBounds]
 simp [Ne.symm h]
theorem eval_same {a:Act} {d:Nat} {v:Value} (h:d<a.tmps.size):(a.put (some d) v).eval (.tmp d)=v:=by
 simp only [Act.eval,Act.put,Array.getD_eq_getD_getElem?,Array.getElem?_setIfInBounds]
 simp [h]
theorem up_other {L:Nat→Bool} {m i:Nat} (h:m≠i):Rv.up L m i=L i:=by simp [Rv.up,h]
theorem up_same {L:Nat→Bool} {i:Nat}:Rv.up L i i=true:=by simp [Rv.up]
theorem up_keep {L:Nat→Bool} {m i:Nat} (h:L i=true):Rv.up L m i=true:=by
 simp [Rv.up,h]
def IsU (w:World) (base:Nat) (v:Value) (l:List Un):Prop:=∃ A c,v=.slice A l.length c∧OwnU w base (.slice A l.length c) l
theorem IsU.then_ {w w':World} {base:Nat} {v:Value} {l:List Un} (h:IsU w base v l) (hb:Below w.heap.size w w'):IsU w' base v l:=by
 obtain ⟨A,c,e,h⟩:=h
 exact ⟨A,c,e,OwnR.then_ h hb⟩
theorem IsU.lt {w:World} {base:Nat} {v:Value} {l:List Un} (h:IsU w base v l):∀ g,v.ownBlock=some g→base≤g∧g<w.heap.size:=by
 obtain ⟨A,c,rfl,h⟩:=h
 exact h.lt
theorem IsU.tn {T:Nat→Prop} {w w':World} {base:Nat} {v:Value} {l:List Un} (h:IsU w base v l) (ht:Tn T w w') (hT:∀ g,v.ownBlock=some g→¬ T g):IsU w' base v l:=by
 obtain ⟨A,c,rfl,h⟩:=h
 exact ⟨A,c,rfl,OwnR.tn h ht hT⟩
structure BoS (W0:World) (pb:Nat) (la lb:List Un) (VA VB:Value) (L:Nat→Bool) (a:Act) (w:World):Prop where
 size:13≤a.tmps.size
 arg:L 4=false→a.eval (.tmp 0)=VA
 l40:L 4=true→L 0=true
 as_:L 4=true→a.eval (.tmp 0)=a.eval (.tmp 10)
 l32:L 3=true→L 2=true
 va:L 1=true→IsU w W0.heap.size (a.eval (.tmp 10)) la
 vb:L 3=true→IsU w W0.heap.size (a.eval (.tmp 12)) lb
 ne:L 1=true→L 3=true→∀ g,(a.eval (.tmp 10)).ownBlock=some g→(a.eval (.tmp 12)).ownBlock≠some g
 c0:L 5=false→InCell w pb VB
 c1:L 5=true→InCell w pb (a.eval (.tmp 12))∧L 3=true
 l41:L 4=true→L 1=true
 tn:Tn (fun b=>b=pb) W0 w
section
variable {W0 w w':World} {pb d m:Nat} {la lb:List Un} {VA VB v:Value} {L:Nat→Bool} {a:Act}
theorem BoS.put (h:BoS W0 pb la lb VA VB L a w) (h0:0≠d) (h1:10≠d) (h2:12≠d) (hm:m=0∨m=2):BoS W0 pb la lb VA VB (Rv.up L m) (a.put (some d) v) w:=by
 have e1:Rv.up L m 1=L 1:=up_other (by omega)
 have e3:Rv.up L m 3=L 3:=up_other (by omega)
 have e4:Rv.up L m 4=L 4:=up_other (by omega)
 have e5:Rv.up L m 5=L 5:=up_other (by omega)
 refine ⟨by rw [Rv.put_len];exact h.size,?_,?_,?_,?_,?_,?_,?_,?_,?_,?_,h.tn⟩
 ·rw [e4,eval_other h0];exact h.arg
 ·rw [e4];exact fun x=>up_keep (h.l40 x)
 ·rw [e4,eval_other h0,eval_other h1];exact h.as_
 ·rw [e3];exact fun x=>up_keep (h.l32 x)
 ·rw [e1,eval_other h1];exact h.va
 ·rw [e3,eval_other h2];exact h.vb
 ·rw [e1,e3,eval_other h1,eval_other h2];exact h.ne
 ·rw [e5];exact h.c0
 ·rw [e5,e3,eval_other h2];exact h.c1
 ·rw [e4,e1];exact h.l41
theorem BoS.callA (h:BoS W0 pb la lb VA VB L a w) (h4:L 1=false) (hr:IsU w' w.heap.size v la) (hb:Below w.heap.size w w'):BoS W0 pb la lb VA VB (Rv.up L 1) (a.put (some 10) v) w':=by
 have e3:Rv.up L 1 3=L 3:=up_other (by omega)
 have e4:Rv.up L 1 4=L 4:=up_other (by omega)
 have e5:Rv.up L 1 5=L 5:=up_other (by omega)
 have e2:Rv.up L 1 2=L 2:=up_other (by omega)
 have e0:Rv.up L 1 0=L 0:=up_other (by omega)
 have hs:=h.size
 have n4:L 4=false:=by
  cases e:L 4 with
  | false=>rfl
  | true=>have:=h.l41 e;rw [h4] at this;cases this
 refine ⟨by rw [Rv.put_len];exact h.size,?_,?_,?_,?_,?_,?_,?_,?_,?_,?_,h.tn.trans (Tn.of (fun _=>False) hb) (fun _ _ x=>x.elim)⟩
 ·rw [e4,eval_other (by decide)];exact h.arg
 ·rw [e4,e0];exact h.l40
 ·rw [e4,n4];intro x;cases x
 ·rw [e3,e2];exact h.l32
 ·rw [eval_same (by omega)]
  obtain ⟨A,c,e,ho⟩:=hr
  exact fun _=>⟨A,c,e,OwnR.lower ho h.tn.size⟩
 ·rw [e3,eval_other (by decide)];exact fun x=>(h.vb x).then_ hb
 ·rw [e3,eval_same (by omega),eval_other (by decide)]
  intro _ h3 g hg hg2
  have h1:=(hr.lt g hg).1
  have h2:=((h.vb h3).lt g hg2).2
  omega
 ·rw [e5];exact fun x=>(h.c0 x).tn (Tn.of (fun _=>False) hb) (fun x=>x)
 ·rw [e5,e3,eval_other (by decide)];exact fun x=>⟨(h.c1 x).1.tn (Tn.of (fun _=>False) hb) (fun x=>x),(h.c1 x).2⟩
 ·intro _;exact up_same
theorem BoS.callB (h:BoS W0 pb la lb VA VB L a w) (h2:L 2=true) (h3:L 3=false) (hr:IsU w' w.heap.size v lb) (hb:Below w.heap.size w w'):BoS W0 pb la lb VA VB (Rv.up L 3) (a.put (some 12) v) w':=by
 have e1:Rv.up L 3 1=L 1:=up_other (by omega)
 have e4:Rv.up L 3 4=L 4:=up_other (by omega)
 have e5:Rv.up L 3 5=L 5:=up_other (by omega)
 have e2:Rv.up L 3 2=L 2:=up_other (by omega)
 have e0:Rv.up L 3 0=L 0:=up_other (by omega)
 have hs:=h.size
 have n5:L 5=false:=by
  cases e:L 5 with
  | false=>rfl
  | true=>have:=(h.c1 e).2;rw [h3] at this;cases this
 refine ⟨by rw [Rv.put_len];exact h.size,?_,?_,?_,?_,?_,?_,?_,?_,?_,?_,h.tn.trans (Tn.of (fun _=>False) hb) (fun _ _ x=>x.elim)⟩
 ·rw [e4,eval_other (by decide)];exact h.arg
 ·rw [e4,e0];exact h.l40
 ·rw [e4,eval_other (by decide),eval_other (by decide)];exact h.as_
 ·rw [e2];exact fun _=>h2
 ·rw [e1,eval_other (by decide)];exact fun x=>(h.va x).then_ hb
 ·rw [eval_same (by omega)]
  obtain ⟨A,c,e,ho⟩:=hr
  exact fun _=>⟨A,c,e,OwnR.lower ho h.tn.size⟩
 ·rw [e1,eval_same (by omega),eval_other (by decide)]
  intro h1 _ g hg hg2
  have h1:=((h.va h1).lt g hg).2
  have h2:=(hr.lt g hg2).1
  omega
 ·rw [e5];exact fun x=>(h.c0 x).tn (Tn.of (fun _=>False) hb) (fun x=>x)
 ·rw [e5,n5];intro x;cases x
 ·rw [e4,e1];exact h.l41
theorem BoS.assign (h:BoS W0 pb la lb VA VB L a w) (h0:L 0=true) (h1:L 1=true) (hv:v=a.eval (.tmp 10)):BoS W0 pb la lb VA VB (Rv.up L 4) (a.put (some 0) v) w:=by
 have e1:Rv.up L 4 1=L 1:=up_other (by omega)
 have e3:Rv.up L 4 3=L 3:=up_other (by omega)
 have e5:Rv.up L 4 5=L 5:=up_other (by omega)
 have e2:Rv.up L 4 2=L 2:=up_other (by omega)
 have e0:Rv.up L 4 0=L 0:=up_other (by omega)
 have hs:=h.size
 refine ⟨by rw [Rv.put_len];exact h.size,?_,?_,?_,?_,?_,?_,?_,?_,?_,?_,h.tn⟩
 ·intro x;rw [up_same] at x;cases x
 ·rw [e0];exact fun _=>h0
 ·intro _;rw [eval_same (by omega),eval_other (by decide),hv]
 ·rw [e3,e2];exact h.l32
 ·rw [e1,eval_other (by decide)];exact h.va
 ·rw [e3,eval_other (by decide)];exact h.vb
 ·rw [e1,e3,eval_other (by decide),eval_other (by decide)];exact h.ne
 ·rw [e5];exact h.c0
 ·rw [e5,e3,eval_other (by decide)];exact h.c1
 ·rw [e1];exact fun _=>h1
theorem BoS.store (h:BoS W0 pb la lb VA VB L a w) (hpb:pb<W0.heap.size) (h3:L 3=true) (h5:L 5=false) (hv:v=a.eval (.tmp 12)):BoS W0 pb la lb VA VB (Rv.up L 5) a (w.setCell ⟨pb,0,none⟩ v):=by
 have e1:Rv.up L 5 1=L 1:=up_other (by omega)
 have e3:Rv.up L 5 3=L 3:=up_other (by omega)
 have e4:Rv.up L 5 4=L 4:=up_other (by omega)
 have e2:Rv.up L 5 2=L 2:=up_other (by omega)
 have e0:Rv.up L 5 0=L 0:=up_other (by omega)
 have ht:Tn (fun b=>b=pb) w (w.setCell ⟨pb,0,none⟩ v):=Tn.set_ (T:=fun b=>b=pb) (Tn.refl _ w) (p:=⟨pb,0,none⟩) (Or.inr rfl) v
 have hne:∀ {u:Value} {l:List Un},IsU w W0.heap.size u l→∀ g,u.ownBlock=some g→¬ g=pb:=fun hu g hg e=>by have:=(hu.lt g hg).1;omega
 refine ⟨h.size,?_,?_,?_,?_,?_,?_,?_,?_,?_,?_,h.tn.trans ht (fun _ _ x=>x)⟩
 ·rw [e4];exact h.arg
 ·rw [e4,e0];exact h.l40
 ·rw [e4];exact h.as_
 ·rw [e3,e2];exact h.l32
 ·rw [e1];exact fun x=>(h.va x).tn ht (hne (h.va x))
 ·rw [e3];exact fun x=>(h.vb x).tn ht (hne (h.vb x))
 ·rw [e1,e3];exact h.ne
 ·intro x;rw [up_same] at x;cases x
 ·intro _
  rw [e3]
  exact ⟨by rw [← hv];exact blk_set (i:=0) (h.c0 h5) v,h3⟩
 ·rw [e4,e1];exact h.l41
end
def BoR (w:World) (B pb:Nat) (la lb:List Un) (VA VB:Value) (i:Value) (wr:World):Prop :=
 ∃ j:Nat,i=.int .i64 (j:Int)∧j≤la.length∧OwnU wr B VA ((Pl.bothR (la.take j) lb).1 ++ la.drop j)∧OwnU wr B VB (Pl.bothR (la.take j) lb).2∧InCell wr pb VB∧Below w.heap.size w wr
theorem below_then' {B:Nat} {w w1 w2:World} (h:Below B w w1) (hb:Below w1.heap.size w1 w2) (hB:B≤w1.heap.size):Below B w w2:=h.trans (hb.mono hB)
def RetB (w:World) (la lb:List Un) (e:Ending) (w':World):Prop :=
 ∃ A c A' c',e=.returned (.tuple #[.slice A la.length c,.slice A' lb.length c'])∧OwnU w' w.heap.size (.slice A la.length c) (Pl.bothR la lb).1∧OwnU w' w.heap.size (.slice A' lb.length c') (Pl.bothR la lb).2∧(∀ g,Value.ownBlock (.slice A la.length c)=some g→Value.ownBlock (.slice A' lb.length c')≠some g)∧Below w.heap.size w w'
theorem both_len1 (la lb:List Un):(Pl.bothR la lb).1.length=la.length:=(Pl.len_both la lb).1
set_option maxHeartbeats 1000000 in
theorem both_any (w:World) (A:Option Addr) (n c:Nat) (la:List Un) (A':Option Addr) (m c':Nat) (lb:List Un) (hA:Uns w w.heap.size A n c la) (hB:Uns w w.heap.size A' m c' lb) (hn:n≤1000) (hm:m≤1000) :
  Calls Tryz.prog 159 #[.slice A n c,.slice A' m c'] w (RetB w la lb):=by
 have hnl:=hA.len
 have hml:=hB.len
 obtain ⟨W0,hW0⟩ : ∃ W0,W0=w.alloc (.cells #[.slice A' m c'] 29):=⟨_,rfl⟩
 have hb0:Below w.heap.size w W0:=by rw [hW0];exact below_box _ _
 have hic:InCell W0 w.heap.size (.slice A' m c'):=by rw [hW0];exact heap_new rfl
 have HA0:=Lib.hid (Rws.then_ hA hb0)
 have HB0:=Lib.hid (Rws.then_ hB hb0)
 have apart:∀ {A0:Option Addr} {n0 c0:Nat} {l0:List Un},Uns w w.heap.size A0 n0 c0 l0→Apart (fun b=>b=w.heap.size) A0 n0:=fun h h0 ad e he=>by
  obtain ⟨g,o,e1,hg,_⟩:=h.2.2.2.2 h0
  rw [e] at e1;cases e1;simp only at he;omega
 have HPA:=Lib.hid (apart hA)
 have HPB:=Lib.hid (apart hB)
 have HBW:=Lib.hid hb0
 have HIC:=Lib.hid hic
 have HPL:=Lib.hid hic.lt
 have HW0:=Lib.hid hW0
 have HNL:=Lib.hid hnl
 have HML:=Lib.hid hml
 clear hA hB hb0 hic hW0 apart hnl hml
 go_enter Tryz.func159,Tryz.ntmps159
 go_wp2_with fail
 rw [show w.alloc (.cells #[.slice A' m c'] 29)=W0 from HW0.out.symm]
 refine Rv.wp_region_inv (BoS W0 w.heap.size la lb (.slice A n c) (.slice A' m c')) PR0 (Rv.Wd.at [.is (.slice A n c),.any,.is (.slice A' m c'),.any,.any,.any]) (by kernel_rfl) (by kernel_rfl) (Rv.Wd.stays _ _ (fun i q hi=>(by rcases i with _ | _ | _ | _ | _ | _ | i <;> simp at hi))) ⟨by simp,fun _=>by simp [Act.eval],(fun h=>by cases h),(fun h=>by cases h),(fun h=>by cases h),(fun h=>by cases h),(fun h=>by cases h),(fun h=>by cases h),fun _=>HIC.out,(fun h=>by cases h),(fun h=>by cases h),(Tn.refl _ _).drew⟩ ⟨?_,?_,?_,?_,?_,?_,trivial⟩ ?_
 ·intro L a w1 hL hS hb hd
  have e0:=hS.arg (by
   cases e:L 4 with
   | false=>rfl
   | true=>have:=hS.l40 e;rw [hL] at this;cases this)
  have e1:=Rv.slot e0
  exact Rv.does_pure (Rv.wanted_none rfl) (by simp [execOp,e1,go_sem]) rfl (hS.put (d:=9) (by decide) (by decide) (by decide) (Or.inl rfl)) trivial
 ·intro L a w1 hL hS hb hd
  have p9:=(hd ⟨0,.data⟩ (by simp) rfl).2 _ _ rfl rfl
  have e9:a.tmps[9]?.getD undef=.slice A n c:=Rv.slot p9
  refine Rv.does_call (f:=158) (args:=#[.slice A n c]) (Rv.wanted_none rfl) (by simp [e9,go_sem]) ((cloneU_any A n c la w1 (Rws.tn HA0.out hS.tn HPA.out) hn).mono ?_)
  rintro e w3 ⟨A1,c1,rfl,hO,hb3⟩
  exact ⟨_,rfl,trivial,hS.callA hL ⟨A1,c1,rfl,hO⟩ hb3,trivial⟩
 ·intro L a w1 hL hS hb hd
  have e3:=hb 3 (Rv.nw (by decide))
  simp [Act.eval] at e3
  have hc:=(hS.c0 (by
   cases e:L 5 with
   | false=>rfl
   | true=>have:=hS.l32 (hS.c1 e).2;rw [hL] at this;cases this)).cell
  exact Rv.does_pure (Rv.wanted_none rfl) (by simp [execOp,e3,hc,go_sem]) rfl (hS.put (d:=11) (by decide) (by decide) (by decide) (Or.inr rfl)) trivial
 ·intro L a w1 hL hS hb hd
  have q2:=(hd ⟨2,.data⟩ (by simp) rfl).1
  have p11:=(hd ⟨2,.data⟩ (by simp) rfl).2 _ _ rfl rfl
  have e11:a.tmps[11]?.getD undef=.slice A' m c':=Rv.slot p11
  refine Rv.does_call (f:=158) (args:=#[.slice A' m c']) (Rv.wanted_none rfl) (by simp [e11,go_sem]) ((cloneU_any A' m c' lb w1 (Rws.tn HB0.out hS.tn HPB.out) hm).mono ?_)
  rintro e w3 ⟨A1,c1,rfl,hO,hb3⟩
  exact ⟨_,rfl,trivial,hS.callB q2 hL ⟨A1,c1,rfl,hO⟩ hb3,trivial⟩
 ·intro L a w1 hL hS hb hd
  have q1:=(hd ⟨1,.data⟩ (by simp) rfl).1
  have q0:=(hd ⟨0,.phase⟩ (by simp) rfl).1
  exact Rv.does_pure (x:=a.eval (.tmp 10)) (Rv.wanted_none rfl) (by simp [execOp,go_sem,Act.eval]) trivial (hS.assign q0 q1 rfl) trivial
 ·intro L a w1 hL hS hb hd
  have q3:=(hd ⟨3,.data⟩ (by simp) rfl).1
  have e3:=hb 3 (Rv.nw (by decide))
  simp [Act.eval] at e3
  have hI:=hS.c0 hL
  have hc:=hI.cell
  have hf:w1.frozen? ⟨w.heap.size,0,none⟩=false:=frozen_of_row w1 w.heap.size 0 _ _ hI
  obtain ⟨A1,c1,e12,_⟩:=hS.vb q3
  have e12':=Rv.slot e12
  exact Rv.does_skip rfl (Rv.wanted_none rfl) (by simp [execOp,e3,e12',hc,hf,go_sem]) trivial (hS.store HPL.out q3 hL e12.symm) trivial
 ·intro L v w3 hS hall hv
  obtain ⟨A1,c1,e1,hO1⟩:=hS.va (hall 1 (by decide))
  obtain ⟨A2,c2,e2,hO2⟩:=hS.vb (hall 3 (by decide))
  have hne:=hS.ne (hall 1 (by decide)) (hall 3 (by decide))
  have hI:=(hS.c1 (hall 5 (by decide))).1
  have e4:=hS.as_ (hall 4 (by decide))
  rw [e1] at hne e4
  rw [e2] at hne hI
  have v1:v 1=.slice A1 la.length c1:=(hv 1 _ _ rfl rfl).2.symm.trans e1
  have v3:v 3=.slice A2 lb.length c2:=(hv 3 _ _ rfl rfl).2.symm.trans e2
  have v4:v 4=.slice A1 la.length c1:=(hv 4 _ _ rfl rfl).2.symm.trans e4
  have hbw:=hS.tn.below HBW.out HBW.out.size (fun b e=>by omega)
  have HPN:=Lib.hid (show ∀ g,Value.ownBlock (.slice A1 la.length c1)=some g→g≠w.heap.size from fun g hg e=>by have:=(hO1.lt g hg).1;have:=HPL.out;omega)
  have HPM:=Lib.hid (show ∀ g,Value.ownBlock (.slice A2 lb.length c2)=some g→g≠w.heap.size from fun g hg e=>by have:=(hO2.lt g hg).1;have:=HPL.out;omega)
  have HNE:=Lib.hid hne
  have HR:=Lib.hid (show BoR w w.heap.size w.heap.size la lb (.slice A1 la.length c1) (.slice A2 lb.length c2) (.int .i64 ((0:Nat):Int)) w3 from
   ⟨0,rfl,Nat.zero_le _,OwnR.lower hO1 HBW.out.size,OwnR.lower hO2 HBW.out.size,hI,hbw⟩)
  obtain ⟨N,hN⟩ : ∃ N,N=la.length:=⟨_,rfl⟩
  obtain ⟨M,hM⟩ : ∃ M,M=lb.length:=⟨_,rfl⟩
  rw [← hN] at v1 v4 HPN HNE HR
  rw [← hM] at v3 HPM HNE HR
  have HN:=Lib.hid hN
  have HM:=Lib.hid hM
  have hNb:N≤1000:=by have:=HNL.out;omega
  have hMb:M≤1000:=by have:=HML.out;omega
  simp only [Rv.putAll,Nat.zero_add,Nat.reduceAdd]
  simp only [Act.put,List.setIfInBounds_toArray,List.set_cons_succ,List.set_cons_zero]
  rw [v1,v3,v4]
  clear hO1 hO2 hne hI e1 e2 e4 v1 v3 v4 hbw hS hall hv hN hM HA0 HB0 HPA HPB
  go_wp2_with fail
  go_loopw [16] (fun i wr=>BoR w w.heap.size w.heap.size la lb (.slice A1 N c1) (.slice A2 M c2) i wr) (fun i _=>N - (intOf i).toNat)
  case atStart=>exact HR.out
  case round =>
   obtain ⟨j,rfl,hj,ho1,ho2,hi,hb⟩:=hrel
   have HO1:=Lib.hid ho1
   have HO2:=Lib.hid ho2
   have HI:=Lib.hid hi
   have HB:=Lib.hid hb
   rw [← HN.out] at hj
   by_cases hlt:j<N
   ·obtain ⟨g,rfl,hbg,hgw⟩:=OwnR.pos_ ho1 (by omega)
    obtain ⟨k0,k1,k2,k3,k4,_⟩:=OwnU.cells ho1 hlt
    have hjl:j<la.length:=by rw [← HN.out];exact hlt
    rw [list_at (show _=j by rw [both_len1,List.length_take];omega) j rfl] at k0 k1 k2 k3 k4
    obtain ⟨x,hx⟩ : ∃ x,x=la.getD j default:=⟨_,rfl⟩
    rw [← hx] at k0 k1 k2 k3 k4
    have HX:=Lib.hid hx
    obtain ⟨W5,hW5⟩ : ∃ W5,W5=wr.alloc (.cells #[.int .i64 x.k,.int .i64 x.p,.int .i32 x.c,.int .u32 x.x,.int .u64 x.y] 47):=⟨_,rfl⟩
    have hb5:Below wr.heap.size wr W5:=by rw [hW5];exact below_box _ _
    have HC:=Lib.hid (carry_any x W5 w.heap.size w.heap.size A2 M c2 (Pl.bothR (la.take j) lb).2 (hi.tn (Tn.of (fun _=>False) hb5) (fun h=>h)) (OwnR.then_ ho2 hb5) HPM.out hMb)
    have HW5:=Lib.hid hW5
    have HB5:=Lib.hid hb5
    have z0:(0:Int)≤(j:Int):=by omega
    have z1:(j:Int)<(N:Int):=by omega
    obtain ⟨⟨ka,pa,ca,xa,ya⟩,ha⟩ : ∃ r,r=(Pl.thru x (Pl.bothR (la.take j) lb).2).1:=⟨_,rfl⟩
    rw [← ha] at HC
    have HNX1:=Lib.hid (show ((Pl.bothR (la.take j) lb).1 ++ la.drop j).set j ⟨ka,pa,ca,xa,ya⟩=(Pl.bothR (la.take (j + 1)) lb).1 ++ la.drop (j + 1) from by
     rw [list_set (by rw [both_len1,List.length_take];omega) hjl,(Pl.both_take la lb j _ (getD_of_get hjl)).1,← hx,ha])
    have HNX2:=Lib.hid (show (Pl.thru x (Pl.bothR (la.take j) lb).2).2=(Pl.bothR (la.take (j + 1)) lb).2 from by
     rw [(Pl.both_take la lb j _ (getD_of_get hjl)).2,← hx])
    rw [HNX2.out] at HC
    unfold uval at HC
    simp only at HC
    clear ho1 ho2 hi hb hx hW5 hb5 ha
    go_wp2_with fail
    rw [show wr.alloc (.cells #[.int .i64 x.k,.int .i64 x.p,.int .i32 x.c,.int .u32 x.x,.int .u64 x.y] 47)=W5 from HW5.out.symm]
    refine HC.out.mono ?_
    rintro e w6 ⟨rfl,ho6,ht6⟩
    have ho5:=OwnR.tn (OwnR.then_ HO1.out HB5.out) ht6 (fun g1 h1 h2=>HNE.out g1 h1 h2)
    have HO5:=Lib.hid ho5
    have HO6:=Lib.hid ho6
    have HI6:=Lib.hid ((HI.out.tn (Tn.of (fun _=>False) HB5.out) (fun h=>h)).tn ht6 (fun h=>HPM.out _ h rfl))
    have HB6:=Lib.hid (ht6.below (below_then' HB.out HB5.out HB.out.size) (Nat.le_trans HB.out.size HB5.out.size) (fun b hb=>(HO2.out.lt b hb).1))
    obtain ⟨d0,d1,d2,d3,d4,f2⟩:=OwnU.cells ho5 hlt
    clear k0 k1 k2 k3 k4 ho5 ho6 ht6
    go_wp2_with fail
    have HO7:=Lib.hid (OwnU.sets HO5.out hlt ⟨ka,pa,ca,xa,ya⟩)
    have HT7:=Lib.hid (tn_five (T:=fun b=>b=g) (i:=j * 5) (Tn.refl _ w6) (Or.inr rfl) (.int .i64 ka) (.int .i64 pa) (.int .i32 ca) (.int .u32 xa) (.int .u64 ya))
    go_roundw
    case rel =>
     refine ⟨j + 1,by go_num,by omega,?_,?_,?_,?_⟩
     ·rw [← HNX1.out];exact HO7.out
     ·exact OwnR.tn HO6.out HT7.out (fun g1 h1 h2=>HNE.out g rfl (by rw [h1,h2]))
     ·exact HI6.out.tn HT7.out (fun h=>HPN.out g rfl h.symm)
     ·exact HT7.out.below HB6.out HB6.out.size (fun b hb=>by omega)
    case measure=>simp [intOf];omega
   ·have hjm:j=la.length:=by have:=HN.out;omega
    subst hjm
    rw [List.take_length,List.drop_length,List.append_nil] at ho1
    rw [List.take_length] at ho2
    have HR2:=Lib.hid (And.intro ho1 ho2)
    have hcp:=hi.cell
    have hNN:=HN.out
    have hMM:=HM.out
    subst hNN hMM
    clear HO1 HO2 HR ho1 ho2 hi hb
    go_wp2_with fail
    go_quiet (fail)
    go_wp2_with fail
    go_returns
    exact ⟨A1,c1,A2,c2,rfl,HR2.out.1,HR2.out.2,HNE.out,⟨HB.out.os,HB.out.tape,HB.out.output,HB.out.size,HB.out.block⟩⟩
open Go.RowKit
open Pl (Un)
namespace Pl
def goL:List Un→Int→Int × Int
 | [],n=>(n,0)
 | u :: r,n=>if Fit u n then goL r (n + grows u.k) else (0,30)
def longL (row:List Un) (n:Int):Int × Int:=if 0≤n∧∀ u ∈ row,Okay u then goL row n else (0,1)
theorem grows_le (k:Int):-1≤grows k∧grows k≤1:=by unfold grows;split <;> (try split) <;> omega
theorem goL_fit:∀ (row:List Un) (cs:List Int),FitR row cs→goL row cs.length=(((leave row cs).length:Int),0)
 | [],_,_=>rfl
 | u :: r,cs,h=>by
  show (if Fit u cs.length then goL r ((cs.length:Int) + grows u.k) else ((0:Int),(30:Int)))=_
  rw [if_pos h.1,← len_behind h.1]
  exact goL_fit r (behind u cs) h.2
theorem fitR_okay:∀ (row:List Un) (cs:List Int),FitR row cs→∀ u ∈ row,Okay u
 | [],_,_=>fun _ h=>by cases h
 | u :: r,cs,h=>fun v hv=>by
  rcases List.mem_cons.1 hv with rfl | hv
  ·exact h.1.1
  ·exact fitR_okay r _ h.2 v hv
theorem longL_fit {row:List Un} {cs:List Int} (h:FitR row cs):longL row cs.length=(((leave row cs).length:Int),0):=by
 unfold longL
 rw [if_pos ⟨by omega,fitR_okay row cs h⟩,goL_fit row cs h]
end Pl
theorem mem_take_getD {l:List Un} {P:Un→Prop} {j:Nat} (h:∀ u ∈ l.take j,P u) (hj:j<l.length) (hp:P (l.getD j default)):∀ u ∈ l.take (j + 1),P u:=by
 intro u hu
 rw [List.take_add_one,getD_of_get hj] at hu
 rcases List.mem_append.1 hu with hu | hu
 ·exact h u hu
 ·simp at hu;rw [hu];exact hp
theorem mem_getD {l:List Un} {j:Nat} (hj:j<l.length):l.getD j default ∈ l:=by
 rw [List.getD_eq_getElem?_getD,List.getElem?_eq_getElem hj];exact List.getElem_mem hj
set_option maxHeartbeats 400000 in
theorem mayNot_any (u:Un) (w:World) :
  Calls Tryz.prog 149 #[uval u] w fun e w'=>e=.returned (.bool (!decide (Pl.Okay u)))∧Below w.heap.size w w':=by
 obtain ⟨k,p,c,x,y⟩:=u
 have HM:=fun w=>Lib.hid (okay_any ⟨k,p,c,x,y⟩ w)
 obtain ⟨r,hr⟩ : ∃ r,r=decide (Pl.Okay ⟨k,p,c,x,y⟩):=⟨_,rfl⟩
 rw [← hr] at HM ⊢
 clear hr
 unfold uval at *
 simp only at *
 go_enter Tryz.func149,Tryz.ntmps149
 go_wp2_with fail
 refine (HM _).out.mono ?_
 rintro e w' ⟨rfl,hb⟩
 have HB:=Lib.hid (below_on hb)
 clear hb
 go_wp2_with fail
 go_ret
 exact ⟨rfl,HB.out⟩
def IxR (w:World) (l:List Un) (i:Value) (wr:World):Prop:=∃ j:Nat,i=.int .i64 (j:Int)∧j≤l.length∧(∀ u ∈ l.take j,Pl.Okay u)∧Below w.heap.size w wr
set_option maxHeartbeats 400000 in
theorem indexF_any (A:Option Addr) (n c:Nat) (l:List Un) (w:World) (h1:Uns w w.heap.size A n c l) :
  Calls Tryz.prog 147 #[.slice A n c,.func (.func 149) #[] #[]] w fun e w'=>∃ r:Int,e=.returned (.int .i64 r)∧(0≤r↔¬ ∀ u ∈ l,Pl.Okay u)∧Below w.heap.size w w':=by
 have hcap1:=h1.cap
 have hle1:=h1.le
 unfold maxLen at hcap1
 have HL:=Lib.hid h1.len
 have H1:=Lib.hid h1
 clear h1
 go_enter Tryz.func147,Tryz.ntmps147
 go_wp2_with fail
 go_loopw [8] (fun i wr=>IxR w l i wr) (fun i _=>n - (intOf i).toNat)
 case atStart=>exact ⟨0,rfl,Nat.zero_le _,(fun u hu=>by simp at hu),Below.refl _ _⟩
 case round =>
  obtain ⟨j,rfl,hj,hs,hb⟩:=hrel
  have HB:=Lib.hid hb
  have HS:=Lib.hid hs
  rw [HL.out] at hj
  clear hb hs
  by_cases hlt:j<n
  ·obtain ⟨g1,o1,rfl,hg1,hc1⟩:=Uns.at_ (Rws.below H1.out HB.out (Nat.le_refl _)) hlt
   obtain ⟨a0,a1,a2,a3,a4⟩:=hc1 j hlt
   have hjl:j<l.length:=by rw [HL.out];exact hlt
   obtain ⟨u,hu⟩ : ∃ u,u=l.getD j default:=⟨_,rfl⟩
   rw [← hu] at a0 a1 a2 a3 a4
   have HM:=Lib.hid (mayNot_any u wr)
   have HY:=Lib.hid (show Pl.Okay u→∀ v ∈ l.take (j + 1),Pl.Okay v from fun h=>mem_take_getD HS.out hjl (by rw [← hu];exact h))
   have HN:=Lib.hid (show ¬ Pl.Okay u→¬ ∀ v ∈ l,Pl.Okay v from fun h h2=>h (h2 u (by rw [hu];exact mem_getD hjl)))
   obtain ⟨k,p,ch,x,y⟩:=u
   simp only at a0 a1 a2 a3 a4
   have z0:(0:Int)≤(j:Int):=by omega
   have z1:(j:Int)<(n:Int):=by omega
   clear hc1 hu
   unfold uval at HM
   simp only at HM
   by_cases hO:Pl.Okay ⟨k,p,ch,x,y⟩
   ·rw [decide_eq_true hO] at HM
    have HY2:=Lib.hid (HY.out hO)
    clear hO
    go_wp2_with fail
    refine HM.out.mono ?_
    rintro e w' ⟨rfl,hb⟩
    have HB2:=Lib.hid (below_then' HB.out hb HB.out.size)
    clear hb a0 a1 a2 a3 a4
    go_wp2_with fail
    go_roundw
    case rel=>exact ⟨j + 1,by go_num,by rw [HL.out];omega,HY2.out,HB2.out⟩
    case measure=>simp [intOf];omega
   ·rw [decide_eq_false hO] at HM
    have HN2:=Lib.hid (HN.out hO)
    clear hO
    go_wp2_with fail
    refine HM.out.mono ?_
    rintro e w' ⟨rfl,hb⟩
    have HB2:=Lib.hid (below_then' HB.out hb HB.out.size)
    clear hb a0 a1 a2 a3 a4
    go_wp2_with fail
    go_ret
    exact ⟨_,rfl,⟨fun _=>HN2.out,fun _=>by omega⟩,HB2.out⟩
  ·have hjn:j=n:=by omega
   have HE:=Lib.hid (show ∀ u ∈ l,Pl.Okay u from by
    have:=HS.out
    rw [List.take_of_length_le (by rw [HL.out];omega)] at this
    exact this)
   clear hjn
   go_wp2_with fail
   go_ret
   exact ⟨_,rfl,⟨fun h=>by omega,fun h=>absurd HE.out h⟩,HB.out⟩
set_option maxHeartbeats 400000 in
theorem contains_any (A:Option Addr) (n c:Nat) (l:List Un) (w:World) (h1:Uns w w.heap.size A n c l) :
  Calls Tryz.prog 71 #[.slice A n c,.func (.func 149) #[] #[]] w fun e w'=>e=.returned (.bool (decide (¬ ∀ u ∈ l,Pl.Okay u)))∧Below w.heap.size w w':=by
 have H1:=Lib.hid (indexF_any A n c l w h1)
 clear h1
 go_enter Tryz.func71,Tryz.ntmps71
 go_wp2_with fail
 refine H1.out.mono ?_
 rintro e w' ⟨r,rfl,hr,hb⟩
 have HR:=Lib.hid hr
 have HB:=Lib.hid hb
 clear hr hb
 go_wp2_with fail
 go_ret
 refine ⟨ret_bool ?_,HB.out⟩
 rw [Bool.eq_iff_iff]
 simp only [decide_eq_true_iff]
 exact HR.out
def LoR (w:World) (l:List Un) (N:Int) (s i:Value) (wr:World):Prop:=∃ (j:Nat) (n:Int),i=.int .i64 (j:Int)∧s=.int .i64 n∧j≤l.length∧Pl.goL l N=Pl.goL (l.drop j) n∧N - j≤n∧n≤N + j∧Below w.heap.size w wr
set_option maxHeartbeats 400000 in
theorem long_any (A:Option Addr) (m c:Nat) (l:List Un) (N:Int) (w:World) (h1:Uns w w.heap.size A m c l) (hm:m≤1000) (hN:N≤1000000) :
  Calls Tryz.prog 74 #[.slice A m c,.int .i64 N] w fun e w'=>e=.returned (.tuple #[.int .i64 (Pl.longL l N).1,.int .i64 (Pl.longL l N).2])∧Below w.heap.size w w':=by
 have HL:=Lib.hid h1.len
 have H1:=Lib.hid h1
 have HC:=Lib.hid (contains_any A m c l w h1)
 clear h1
 obtain ⟨ra,hra⟩ : ∃ r,r=(Pl.longL l N).1:=⟨_,rfl⟩
 obtain ⟨rb,hrb⟩ : ∃ r,r=(Pl.longL l N).2:=⟨_,rfl⟩
 rw [← hra,← hrb]
 have HRA:=Lib.hid hra
 have HRB:=Lib.hid hrb
 clear hra hrb
 by_cases h0:N<0
 ·have HE:=Lib.hid (show Pl.longL l N=(0,1) by unfold Pl.longL;rw [if_neg];omega)
  rw [HE.out] at HRA HRB
  go_enter Tryz.func74,Tryz.ntmps74
  go_wp2_with fail
  go_returns
  exact ⟨by rw [HRA.out,HRB.out];rfl,Below.refl _ _⟩
 ·by_cases hok:∀ u ∈ l,Pl.Okay u
  ·rw [decide_eq_false (fun h=>h hok)] at HC
   have HE:=Lib.hid (show Pl.longL l N=Pl.goL l N by unfold Pl.longL;rw [if_pos ⟨by omega,hok⟩])
   rw [HE.out] at HRA HRB
   clear hok
   have z0:decide (N<0)=false:=decide_eq_false h0
   go_enter Tryz.func74,Tryz.ntmps74
   go_wp2_with fail
   refine HC.out.mono ?_
   rintro e w1 ⟨rfl,hb⟩
   have HB1:=Lib.hid hb
   clear hb
   go_wp2_with fail
   go_loopw [1,18] (fun s i wr=>LoR w l N s i wr) (fun _ i _=>m - (intOf i).toNat)
   case atStart=>exact ⟨0,N,rfl,rfl,Nat.zero_le _,rfl,by omega,by omega,HB1.out⟩
   case round =>
    obtain ⟨j,n,rfl,rfl,hj,hg,hn1,hn2,hb⟩:=hrel
    have HB:=Lib.hid hb
    have HG:=Lib.hid hg
    rw [HL.out] at hj
    clear hb hg
    by_cases hlt:j<m
    ·obtain ⟨g1,o1,rfl,hg1,hc1⟩:=Uns.at_ (Rws.below H1.out HB.out (Nat.le_refl _)) hlt
     obtain ⟨a0,a1,a2,a3,a4⟩:=hc1 j hlt
     have hjl:j<l.length:=by rw [HL.out];exact hlt
     obtain ⟨u,hu⟩ : ∃ u,u=l.getD j default:=⟨_,rfl⟩
     rw [← hu] at a0 a1 a2 a3 a4
     have HD:=Lib.hid (show l.drop j=u :: l.drop (j + 1) from by rw [hu,List.getD_eq_getElem?_getD,List.getElem?_eq_getElem hjl];exact List.drop_eq_getElem_cons hjl)
     have HF:=fun w=>Lib.hid (fits_any u n w)
     have HG2:=fun w=>Lib.hid (grows_any u w)
     have hgl:=Pl.grows_le u.k
     obtain ⟨n2,hn2e⟩ : ∃ n2,n2=n + Pl.grows u.k:=⟨_,rfl⟩
     have hw:wrap64 (n + Pl.grows u.k)=n2:=by unfold wrap64;omega
     have HST:=Lib.hid (show Pl.Fit u n→Pl.goL l N=Pl.goL (l.drop (j + 1)) n2 from fun h=>by
      rw [HG.out,HD.out,hn2e];exact if_pos h)
     have HNF:=Lib.hid (show ¬ Pl.Fit u n→Pl.goL l N=(0,30) from fun h=>by
      rw [HG.out,HD.out];exact if_neg h)
     have hb1:N - ((j + 1:Nat):Int)≤n2:=by omega
     have hb2:n2≤N + ((j + 1:Nat):Int):=by omega
     obtain ⟨k,p,ch,x,y⟩:=u
     simp only at a0 a1 a2 a3 a4 hw
     obtain ⟨gr,hgr⟩ : ∃ gr,gr=Pl.grows k:=⟨_,rfl⟩
     simp only at HG2
     rw [← hgr] at hw HG2
     have z0:(0:Int)≤(j:Int):=by omega
     have z1:(j:Int)<(m:Int):=by omega
     have HU:=Lib.hid (uat_new wr k p ch x y)
     have HBU:=Lib.hid (below_alloc HB.out (.cells #[.int .i64 k,.int .i64 p,.int .i32 ch,.int .u32 x,.int .u64 y] 47))
     clear hc1 hu hgl hn2e hgr HD
     unfold uval at HF HG2
     simp only at HF HG2
     by_cases hfit:Pl.Fit ⟨k,p,ch,x,y⟩ n
     ·rw [decide_eq_true hfit] at HF
      have HS2:=Lib.hid (HST.out hfit)
      clear hfit
      go_wp2_with fail
      refine (HF _).out.mono ?_
      rintro e w2 ⟨rfl,hb2'⟩
      have HB2:=Lib.hid (below_then' HBU.out hb2' HBU.out.size)
      obtain ⟨c0,c1,c2,c3,c4⟩:=(HU.out.then_ hb2').cells
      clear hb2' a0 a1 a2 a3 a4
      go_wp2_with fail
      refine (HG2 _).out.mono ?_
      rintro e w3 ⟨rfl,hb3⟩
      have HB3:=Lib.hid (below_then' HB2.out hb3 HB2.out.size)
      clear hb3 c0 c1 c2 c3 c4
      go_wp2_with fail
      go_roundw
      case rel=>exact ⟨j + 1,n2,by go_num,by rw [hw],by rw [HL.out];omega,HS2.out,hb1,hb2,HB3.out⟩
      case measure=>simp [intOf];omega
     ·rw [decide_eq_false hfit] at HF
      have HS2:=Lib.hid (HNF.out hfit)
      clear hfit
      go_wp2_with fail
      refine (HF _).out.mono ?_
      rintro e w2 ⟨rfl,hb2'⟩
      have HB2:=Lib.hid (below_then' HBU.out hb2' HBU.out.size)
      clear hb2' a0 a1 a2 a3 a4
      go_wp2_with fail
      go_returns
      exact ⟨by rw [HRA.out,HRB.out,HS2.out];rfl,HB2.out⟩
    ·have HE2:=Lib.hid (show Pl.goL l N=(n,0) from by rw [HG.out,List.drop_of_length_le (by rw [HL.out];omega)];rfl)
     go_wp2_with fail
     go_returns
     exact ⟨by rw [HRA.out,HRB.out,HE2.out];rfl,HB.out⟩
  ·rw [decide_eq_true hok] at HC
   have HE:=Lib.hid (show Pl.longL l N=(0,1) by unfold Pl.longL;rw [if_neg];exact fun h=>hok h.2)
   rw [HE.out] at HRA HRB
   clear hok
   have z0:decide (N<0)=false:=decide_eq_false h0
   go_enter Tryz.func74,Tryz.ntmps74
   go_wp2_with fail
   refine HC.out.mono ?_
   rintro e w1 ⟨rfl,hb⟩
   have HB1:=Lib.hid hb
   clear hb
   go_wp2_with fail
   go_returns
   exact ⟨by rw [HRA.out,HRB.out];rfl,HB1.out⟩
end Go.Proofs.YtlgdcelgkiipaaaGreat
