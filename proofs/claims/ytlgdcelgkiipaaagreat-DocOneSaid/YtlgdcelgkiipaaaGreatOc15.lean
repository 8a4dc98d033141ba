/-
  past.Past's Copy and Drop: at a past and at none. Conditions: those of a past.
  past.Past's Push where it is refused (units that do not fit, a full past, none). Conditions: those of a past; the units of at most 2^47 bytes; the last length at most 2^60.
-/
import Derived.Test.YtlgdcelgkiipaaaGreatOc14
import Derived.Test.YtlgdcelgkiipaaaGreatOc09
set_option maxRecDepth 100000
set_option linter.unusedVariables false
namespace Go.Proofs.YtlgdcelgkiipaaaGreat
open Go.RowKit
open Pl (Un)
def CpO (B:Nat) (P:List Pl.Op) (v:Value) (w:World):Prop:=∃ A c,v=.slice A P.length c∧RowO w B (.slice A P.length c) P
def CpI (B:Nat) (l:List Int) (v:Value) (w:World):Prop:=∃ A c,v=.slice A l.length c∧OwnR encI 1 3 w B (.slice A l.length c) l
def CpB (B fr:Nat) (P:List Pl.Op) (l:List Int) (v:Value) (w:World):Prop:=∃ A c A' c',v=.agg #[.int .u64 (fr:Int),.slice A P.length c,.slice A' l.length c']∧RowO w B (.slice A P.length c) P∧OwnR encI 1 3 w B (.slice A' l.length c') l
def CpP (B fr:Nat) (N:Int) (P:List Pl.Op) (v:Value) (w:World):Prop:=∃ q,v=.pointer (some ⟨q,0,none⟩)∧B≤q∧PastAt w q (fun b=>B≤b∧b≠q) fr N P
theorem CpO.stb {B:Nat} {P:List Pl.Op}:Rg.Stb (CpO B P):=fun _ _ _ ⟨A,c,e,h⟩ hb=>⟨A,c,e,h.then_ hb⟩
theorem CpI.stb {B:Nat} {l:List Int}:Rg.Stb (CpI B l):=fun _ _ _ ⟨A,c,e,h⟩ hb=>⟨A,c,e,OwnR.then_ h hb⟩
theorem CpB.stb {B fr:Nat} {P:List Pl.Op} {l:List Int}:Rg.Stb (CpB B fr P l):=fun _ _ _ ⟨A,c,A',c',e,h,h2⟩ hb=>⟨A,c,A',c',e,h.then_ hb,OwnR.then_ h2 hb⟩
theorem CpP.stb {B fr:Nat} {N:Int} {P:List Pl.Op}:Rg.Stb (CpP B fr N P):=fun _ _ _ ⟨q,e,h,h2⟩ hb=>⟨q,e,h,h2.then_ hb⟩
theorem CpP.new {w0 w:World} {fr:Nat} {N:Int} {P:List Pl.Op} {A A':Option Addr} {c c':Nat} (hS:Below w0.heap.size w0 w) (hf:Pl.Fine fr P) (ho:RowO w w0.heap.size (.slice A P.length c) P) (hl:OwnR encI 1 3 w w0.heap.size (.slice A' (Pl.lens N P).length c') (Pl.lens N P)) :
  CpP w0.heap.size fr N P (.pointer (some ⟨w.heap.size,0,none⟩)) (w.alloc (.cells #[.int .u64 (fr:Int),.slice A P.length c,.slice A' (Pl.lens N P).length c'] 166)):=by
 have hb:=below_box w (.cells #[.int .u64 (fr:Int),.slice A P.length c,.slice A' (Pl.lens N P).length c'] 166)
 obtain ⟨_,L,h1,h2⟩:=ho.ops
 have h3:=(OwnR.rws encI_len hl).2
 have h4:=h1.then_ hb
 have h0:=below_size hS
 refine ⟨w.heap.size,rfl,h0,A,P.length,c,A',(Pl.lens N P).length,c',L,heap_new rfl,?_,h2,Rws.then_ h3 hb,fun h ad e=>?_,fun e=>e.2 rfl,hf⟩
 ·refine ⟨h4.1,fun h ad e=>⟨h1.2.1 h ad e,?_⟩,fun o ho=>⟨(h4.2.2 o ho).1,fun h ad e=>⟨(h1.2.2 o ho).2 h ad e,?_⟩⟩⟩
  ·have:=Rws.in_ h1.1 h ad e;omega
  ·have:=Rws.in_ (h1.2.2 o ho).1 h ad e;omega
 ·subst e
  have:=OwnR.lt hl _ rfl
  exact ⟨this.1,by omega⟩
variable {w:World} {p:Nat} {F:Nat→Prop} {fr:Nat} {N:Int} {P:List Pl.Op}
set_option maxHeartbeats 400000 in
theorem copy_any (h:PastAt w p F fr N P) :
  Calls Tryz.prog 57 #[.pointer (some ⟨p,0,none⟩)] w fun e w'=>∃ q,e=.returned (.pointer (some ⟨q,0,none⟩))∧w.heap.size≤q∧PastAt w' q (fun b=>w.heap.size≤b∧b≠q) fr N P∧Below w.heap.size w w':=by
 have HN:=Lib.hid (none_past h)
 have HBE:=Lib.hid (show ∀ w1,Below w.heap.size w w1→Calls Tryz.prog 136 #[.pointer (some ⟨p,0,none⟩),.int .i64 0] w1 (RetO w1 P) from fun w1 hb=>by
  have:=behind_any (h.then_ hb) 0 (Nat.zero_le _)
  rwa [List.drop_zero] at this)
 have HFI:=Lib.hid h.fine
 obtain ⟨A,n,c,B,m,d,L,h⟩:=h
 have HP:=Lib.hid h
 have HMB:=Lib.hid (show m≤1000000 by rw [h.m_len];have:=h.fine.cnt;omega)
 clear h
 go_enter Tryz.func57,Tryz.ntmps57
 go_wp2_with fail
 refine HN.out.mono ?_
 rintro e w' ⟨rfl,hw⟩
 rw [hw]
 clear hw
 go_wp2_with fail
 refine Rg.wp_region_inv (Below w.heap.size w) (Rg.Wd.at [.is (.pointer (some ⟨p,0,none⟩)),.is (.pointer (some ⟨p,0,none⟩)),.is (.pointer (some ⟨p,0,none⟩)),.is (.int .u64 (fr:Int)),.is (.pointer (some ⟨p,0,none⟩)),.pred (CpO w.heap.size P) CpO.stb,.is (.pointer (some ⟨p,0,none⟩)),.is (.pointer (some ⟨p,0,none⟩)),.is (.pointer (some ⟨p,2,none⟩)),.is (.slice B m d),.pred (CpI w.heap.size (Pl.lens N P)) CpI.stb,.pred (CpB w.heap.size fr P (Pl.lens N P)) CpB.stb,.pred (CpP w.heap.size fr N P) CpP.stb,.pred (CpP w.heap.size fr N P) CpP.stb]) (by kernel_rfl) (by kernel_rfl) (Rg.Wd.stays _ _) ((below_drawn (Below.refl _ _))) ⟨?_,?_,?_,?_,?_,?_,?_,?_,?_,?_,?_,?_,?_,?_,trivial⟩ ?_
 ·intro a w1 hS hb hd
  have e0:=hb 0 (Rg.nw (by decide))
  simp [Act.eval] at e0
  exact Rg.does_pure (Rg.wanted_none rfl) (by simp [execOp,e0,go_sem]) hS rfl
 ·intro a w1 hS hb hd
  have e5:=hd ⟨0,.data⟩ (by simp) rfl _ _ rfl rfl
  have e5:a.tmps[5]?.getD undef=(.pointer (some ⟨p,0,none⟩)):=Rg.slot e5
  exact Rg.does_pure (Rg.wanted_none rfl) (by simp [execOp,e5,go_sem]) hS rfl
 ·intro a w1 hS hb hd
  have e6:=hd ⟨1,.data⟩ (by simp) rfl _ _ rfl rfl
  have e6:a.tmps[6]?.getD undef=(.pointer (some ⟨p,0,none⟩)):=Rg.slot e6
  exact Rg.does_pure (Rg.wanted_none rfl) (by simp [execOp,e6,go_sem]) hS rfl
 ·intro a w1 hS hb hd
  have e7:=hd ⟨2,.data⟩ (by simp) rfl _ _ rfl rfl
  have e7:a.tmps[7]?.getD undef=(.pointer (some ⟨p,0,none⟩)):=Rg.slot e7
  exact Rg.does_pure (Rg.wanted_none rfl) (by simp [execOp,e7,(HP.out.then_ hS).cells.1,go_sem]) hS rfl
 ·intro a w1 hS hb hd
  have e0:=hb 0 (Rg.nw (by decide))
  simp [Act.eval] at e0
  exact Rg.does_pure (Rg.wanted_none rfl) (by simp [execOp,e0,go_sem]) hS rfl
 ·intro a w1 hS hb hd
  have e9:=hd ⟨4,.data⟩ (by simp) rfl _ _ rfl rfl
  have e9:a.tmps[9]?.getD undef=(.pointer (some ⟨p,0,none⟩)):=Rg.slot e9
  refine Rg.does_call (f:=136) (args:=#[.pointer (some ⟨p,0,none⟩),.int .i64 0]) (Rg.wanted_none rfl) (by simp [e9,go_sem]) ?_
  refine (HBE.out w1 hS).mono ?_;rintro e w3 ⟨A3,c3,rfl,ho,hb⟩;exact ⟨_,rfl,⟨A3,c3,rfl,ho.lower (below_size hS)⟩,below_then hS hb,hb⟩
 ·intro a w1 hS hb hd
  have e0:=hb 0 (Rg.nw (by decide))
  simp [Act.eval] at e0
  exact Rg.does_pure (Rg.wanted_none rfl) (by simp [execOp,e0,go_sem]) hS rfl
 ·intro a w1 hS hb hd
  have e11:=hd ⟨6,.data⟩ (by simp) rfl _ _ rfl rfl
  have e11:a.tmps[11]?.getD undef=(.pointer (some ⟨p,0,none⟩)):=Rg.slot e11
  exact Rg.does_pure (Rg.wanted_none rfl) (by simp [execOp,e11,go_sem]) hS rfl
 ·intro a w1 hS hb hd
  have e12:=hd ⟨7,.data⟩ (by simp) rfl _ _ rfl rfl
  have e12:a.tmps[12]?.getD undef=(.pointer (some ⟨p,0,none⟩)):=Rg.slot e12
  exact Rg.does_pure (Rg.wanted_none rfl) (by simp [execOp,e12,go_sem]) hS rfl
 ·intro a w1 hS hb hd
  have e13:=hd ⟨8,.data⟩ (by simp) rfl _ _ rfl rfl
  have e13:a.tmps[13]?.getD undef=(.pointer (some ⟨p,2,none⟩)):=Rg.slot e13
  exact Rg.does_pure (Rg.wanted_none rfl) (by simp [execOp,e13,(HP.out.then_ hS).cells.2.2,go_sem]) hS rfl
 ·intro a w1 hS hb hd
  have e14:=hd ⟨9,.data⟩ (by simp) rfl _ _ rfl rfl
  have e14:a.tmps[14]?.getD undef=(.slice B m d):=Rg.slot e14
  refine Rg.does_call (f:=137) (args:=#[.slice B m d]) (Rg.wanted_none rfl) (by simp [e14,go_sem]) ?_
  refine (cloneI_any B m d (Pl.lens N P) w1 (HP.out.then_ hS).len HMB.out).mono ?_;rintro e w3 ⟨A3,c3,rfl,ho,hb⟩;exact ⟨_,rfl,⟨A3,c3,rfl,OwnR.lower ho (below_size hS)⟩,below_then hS hb,hb⟩
 ·intro a w1 hS hb hd
  have e8:=hd ⟨3,.data⟩ (by simp) rfl _ _ rfl rfl
  have e8:a.tmps[8]?.getD undef=(.int .u64 (fr:Int)):=Rg.slot e8
  have e10:=hd ⟨5,.data⟩ (by simp) rfl _ _ rfl rfl
  have e15:=hd ⟨10,.data⟩ (by simp) rfl _ _ rfl rfl
  obtain ⟨A3,c3,e1,ho⟩:=e10;obtain ⟨A4,c4,e2,hl⟩:=e15;have e3:=Rg.slot e1;have e4:=Rg.slot e2;exact Rg.does_pure (Rg.wanted_none rfl) (by simp [execOp,e8,e3,e4,go_sem]) hS ⟨A3,c3,A4,c4,rfl,ho,hl⟩
 ·intro a w1 hS hb hd
  have e16:=hd ⟨11,.data⟩ (by simp) rfl _ _ rfl rfl
  obtain ⟨A3,c3,A4,c4,e1,ho,hl⟩:=e16;have e3:=Rg.slot e1;exact Rg.does_new (x:=.pointer (some ⟨w1.heap.size,0,none⟩)) (ob:=.cells #[.int .u64 (fr:Int),.slice A3 P.length c3,.slice A4 (Pl.lens N P).length c4] 166) (Rg.wanted_none rfl) (by simp [execOp,e3,go_sem]) (below_alloc hS _) (CpP.new hS HFI.out ho hl)
 ·intro a w1 hS hb hd
  have e17:=hd ⟨12,.data⟩ (by simp) rfl _ _ rfl rfl
  obtain ⟨q,e1,h1,h2⟩:=e17;have e3:=Rg.slot e1;exact Rg.does_pure (Rg.wanted_none rfl) (by simp [execOp,e3,go_sem]) hS ⟨q,rfl,h1,h2⟩
 ·intro v w3 hS hv
  obtain ⟨q,e1,h1,h2⟩:=hv 13 _ _ rfl rfl
  have H2:=Lib.hid h2
  have HQ:=Lib.hid h1
  have HB:=Lib.hid hS
  clear hS hv h1 h2
  simp only [Rg.putAll,Nat.zero_add,Nat.reduceAdd]
  simp only [Act.put,List.setIfInBounds_toArray,List.set_cons_succ,List.set_cons_zero]
  rw [e1]
  clear e1
  go_wp2_with fail
  go_ret
  exact ⟨q,rfl,HQ.out,H2.out,HB.out⟩
def DropR (w:World) (p:Nat) (F:Nat→Prop) (fr:Nat) (N:Int) (P:List Pl.Op) (k:Nat) (e:Ending) (w':World):Prop :=
 e=.returned (.int .i64 (k:Int))∧PastAt w' p F (fr + k) (N + Pl.total (P.take k)) (P.drop k)∧Tn (fun b=>b=p) w w'
theorem Pl.Fine.drop {fr:Nat} {P:List Pl.Op} (h:Pl.Fine fr P) (k:Nat) (hk:k≤P.length):Pl.Fine (fr + k) (P.drop k) :=
 ⟨by rw [List.length_drop];have:=h.cnt;omega,by rw [List.length_drop];have:=h.rev;omega,h.small.drop k⟩
theorem PastW.cut {W1 W2 W3 W4:World} {A A2 B B2:Option Addr} {n c c2 m d d2 gn f1:Nat} {L L':List OpV} {l':List Int} (h:PastW w p F fr N P A n c B m d L) (hL':L'=L.drop gn) (hl':l'=(Pl.lens N P).drop gn) (hF:∀ b,w.heap.size≤b→F b) (hg:gn≤P.length) (hf1:f1=fr + gn)
  (hW1:W1=w.setCell ⟨p,0,none⟩ (.int .u64 (f1:Int))) (hb2:Below W1.heap.size W1 W2) (ho2:OwnR encO 4 45 W2 W1.heap.size (.slice A2 L'.length c2) L')
  (hW3:W3=W2.setCell ⟨p,1,none⟩ (.slice A2 L'.length c2)) (hb4:Below W3.heap.size W3 W4) (ho4:OwnR encI 1 3 W4 W3.heap.size (.slice B2 l'.length d2) l') :
  PastAt (W4.setCell ⟨p,2,none⟩ (.slice B2 l'.length d2)) p F (fr + gn) (N + Pl.total (P.take gn)) (P.drop gn)∧Tn (fun b=>b=p) w (W4.setCell ⟨p,2,none⟩ (.slice B2 l'.length d2)):=by
 subst hL' hl'
 have hpl:=h.lt
 have t1:Tn (fun b=>b=p) w W1:=by rw [hW1];exact (Tn.refl (fun b=>b=p) w).set_ (p:=⟨p,0,none⟩) (Or.inr rfl) _
 have t2:Tn (fun b=>b=p) W1 W2:=Tn.of _ hb2
 have t3:Tn (fun b=>b=p) W2 W3:=by rw [hW3];exact (Tn.refl (fun b=>b=p) W2).set_ (p:=⟨p,1,none⟩) (Or.inr rfl) _
 have t4:Tn (fun b=>b=p) W3 W4:=Tn.of _ hb4
 have t5:Tn (fun b=>b=p) W4 (W4.setCell ⟨p,2,none⟩ (.slice B2 ((Pl.lens N P).drop gn).length d2)):=(Tn.refl (fun b=>b=p) W4).set_ (p:=⟨p,2,none⟩) (Or.inr rfl) _
 have s1:=t1.size
 have s2:=t2.size
 have s3:=t3.size
 have t25:=(t3.trans t4 (fun _ _ x=>x)).trans t5 (fun _ _ x=>x)
 have t15:=(t1.trans t2 (fun _ _ x=>x)).trans t25 (fun _ _ x=>x)
 have b1:W1.heap[p]?=some (.cells #[.int .u64 (f1:Int),.slice A n c,.slice B m d] 166 (0,0)):=by rw [hW1];exact blk_set (i:=0) h.blk _
 have b2:=below_old hb2 b1 (by omega)
 have b3:W3.heap[p]?=some (.cells #[.int .u64 (f1:Int),.slice A2 (L.drop gn).length c2,.slice B m d] 166 (0,0)):=by rw [hW3];exact blk_set (i:=1) b2 _
 have b4:=below_old hb4 b3 (by omega)
 have b5:(W4.setCell ⟨p,2,none⟩ (.slice B2 ((Pl.lens N P).drop gn).length d2)).heap[p]?=some (.cells #[.int .u64 (f1:Int),.slice A2 (L.drop gn).length c2,.slice B2 ((Pl.lens N P).drop gn).length d2] 166 (0,0)):=blk_set (i:=2) b4 _
 have o2:=OwnR.tn ho2 t25 (fun g hg e=>by have:=(OwnR.lt ho2 g hg).1;omega)
 have o4:=OwnR.tn ho4 t5 (fun g hg e=>by have:=(OwnR.lt ho4 g hg).1;omega)
 refine ⟨⟨A2,(L.drop gn).length,c2,B2,((Pl.lens N P).drop gn).length,d2,L.drop gn,?_,⟨(OwnR.rws encO_len o2).2,fun _ ad e=>?_,fun o ho=>(h.ops.2.2 o (List.mem_of_mem_drop ho)).tn t15 fun b hb e=>h.no (by rw [← e];exact hb)⟩,by rw [List.map_drop,h.eq],?_,fun _ ad e=>?_,h.no,h.fine.drop gn hg⟩,t15⟩
 ·rw [← hf1];exact b5
 ·subst e
  exact hF _ (by have:=(OwnR.lt ho2 _ rfl).1;omega)
 ·rw [← Pl.lens_drop N P gn hg]
  exact (OwnR.rws encI_len o4).2
 ·subst e
  exact hF _ (by have:=(OwnR.lt ho4 _ rfl).1;omega)
set_option maxHeartbeats 400000 in
theorem drop_any (h:PastAt w p F fr N P) (hF:∀ b,w.heap.size≤b→F b) (keep:Nat) (hk:keep≤1000000) :
  Calls Tryz.prog 110 #[.pointer (some ⟨p,0,none⟩),.int .i64 (keep:Int)] w (DropR w p F fr N P (P.length - keep)):=by
 have HL:=Lib.hid (len_past h)
 have hcnt:=h.fine.cnt
 obtain ⟨M,hM⟩ : ∃ M,M=P.length:=⟨_,rfl⟩
 rw [← hM] at HL hcnt ⊢
 have hmax:max (keep:Int) 0=(keep:Int):=by omega
 have hmax2:max 0 (keep:Int)=(keep:Int):=by omega
 by_cases hle:M≤keep
 ·have HE:=Lib.hid (show DropR w p F fr N P (M - keep) (.returned (.int .i64 0)) w by
   rw [show M - keep=0 by omega]
   refine ⟨rfl,?_,Tn.refl _ _⟩
   rw [List.take_zero,Pl.total_nil,List.drop_zero,Int.add_zero]
   exact h)
  have hwr:wrap64 ((M:Int) - (keep:Int))=(M:Int) - (keep:Int):=by unfold wrap64;omega
  clear h hF hM
  go_enter Tryz.func110,Tryz.ntmps110
  go_wp2_with fail
  refine HL.out.mono ?_
  rintro e w' ⟨rfl,hw⟩
  rw [hw]
  clear hw
  go_wp2_with fail
  go_ret
  exact HE.out
 ·obtain ⟨gn,hgn⟩ : ∃ gn,gn=M - keep:=⟨_,rfl⟩
  rw [← hgn]
  have hwr:wrap64 ((M:Int) - (keep:Int))=(gn:Int):=by unfold wrap64;omega
  have hg0:0<gn:=by omega
  have HGM:=Lib.hid (show gn≤P.length by omega)
  have hg1:gn≤256:=by omega
  have hfr:fr≤1099511627776:=by have:=h.fine.rev;omega
  obtain ⟨A,n,c,B,m,d,L,hP⟩:=h
  obtain ⟨f1,hf1⟩ : ∃ f1,f1=fr + gn:=⟨_,rfl⟩
  have hw0:IntKind.u64.wrap ((fr:Int) + (gn:Int))=(f1:Int):=by rw [wrap_u64 (by omega) (by omega)];omega
  obtain ⟨c0,c1,c2⟩:=hP.cells
  have f0:=fun j=>hP.frozen j
  have hgn2:gn≤n:=by rw [hP.n_len,← hM];omega
  have hgm2:gn≤m:=by rw [hP.m_len,← hM];omega
  have sO:=slice_fromO A n c gn hgn2
  have sI:=slice_fromI B m d gn hgm2
  obtain ⟨W1,hW1⟩ : ∃ W1,W1=w.setCell ⟨p,0,none⟩ (.int .u64 (f1:Int)):=⟨_,rfl⟩
  have t1:Tn (fun b=>b=p) w W1:=by rw [hW1];exact (Tn.refl (fun b=>b=p) w).set_ (p:=⟨p,0,none⟩) (Or.inr rfl) _
  have hno:∀ b,F b→¬ b=p:=fun b hb e=>hP.no (by rw [← e];exact hb)
  have rO:=Rws.from_ encO_len (Rws.tn hP.ops.1 t1 (hP.ops.2.1.apart hno)) hgn2
  have rI:=Rws.from_ encI_len (Rws.tn hP.len t1 (hP.inB.apart hno)) hgm2
  have iI:In F (if d=gn then B else B.map (·.add (gn * 1))) (m - gn):=fun h0 ad e=>by
   by_cases hd:d=gn
   ·have:=hP.len.le;omega
   ·rw [if_neg hd] at e
    cases B with
    | none=>cases e
    | some b0 =>
     cases e
     have:=hP.inB (by omega) b0 rfl
     have e2:(b0.add (gn * 1)).block=b0.block:=by unfold Addr.add;split <;> rfl
     show F (b0.add (gn * 1)).block
     rw [e2];exact this
  obtain ⟨A',hA'⟩ : ∃ A',A'=(if c=gn then A else A.map (·.add (gn * 4))):=⟨_,rfl⟩
  obtain ⟨B',hB'⟩ : ∃ B',B'=(if d=gn then B else B.map (·.add (gn * 1))):=⟨_,rfl⟩
  obtain ⟨n',hn'⟩ : ∃ x,x=n - gn:=⟨_,rfl⟩
  obtain ⟨m',hm'⟩ : ∃ x,x=m - gn:=⟨_,rfl⟩
  obtain ⟨c',hc'⟩ : ∃ x,x=c - gn:=⟨_,rfl⟩
  obtain ⟨d',hd'⟩ : ∃ x,x=d - gn:=⟨_,rfl⟩
  rw [← hA',← hn',← hc'] at sO rO
  rw [← hB',← hm',← hd'] at sI rI
  rw [← hB',← hm'] at iI
  obtain ⟨L',hL'⟩ : ∃ L',L'=L.drop gn:=⟨_,rfl⟩
  obtain ⟨l',hl'⟩ : ∃ l',l'=(Pl.lens N P).drop gn:=⟨_,rfl⟩
  rw [← hL'] at rO
  rw [← hl'] at rI
  have HLD:=Lib.hid hL'
  have HLE:=Lib.hid hl'
  have HCO:=Lib.hid (cloneO_any A' n' c' L' W1 rO (by have:=hP.n_len;omega))
  have HRI:=Lib.hid rI
  have HII:=Lib.hid iI
  have HM1:=Lib.hid (show m'≤1000000 by have:=hP.m_len;omega)
  have HP:=Lib.hid hP
  have HF:=Lib.hid hF
  have HF1:=Lib.hid hf1
  have HW1:=Lib.hid hW1
  have HNO:=Lib.hid hno
  have HT1:=Lib.hid t1
  clear hP hF hf1 hM hW1 hgn hle hmax2 hcnt hfr hgn2 hgm2 rO rI hA' hB' hn' hm' hc' hd' hno t1 iI hL' hl'
  go_enter Tryz.func110,Tryz.ntmps110
  go_wp2_with fail
  refine HL.out.mono ?_
  rintro e w' ⟨rfl,hw⟩
  rw [hw]
  clear hw HL
  go_wp2_with fail
  rw [← HW1.out]
  refine HCO.out.mono ?_
  rintro e W2 ⟨A2,c2',rfl,ho2,hb2⟩
  have hpl:=HP.out.lt
  have b2:W2.heap[p]?=some (.cells #[.int .u64 (f1:Int),.slice A n c,.slice B m d] 166 (0,0)):=below_old hb2 (by rw [HW1.out];exact blk_set (i:=0) HP.out.blk _) (Nat.lt_of_lt_of_le hpl HT1.out.size)
  have k0:=cell0 (r:=[.slice A n c,.slice B m d]) b2
  have k1:=cell1 (r:=[.slice B m d]) b2
  have k2:=cell2 (r:=[]) b2
  have kf:=fun j=>frozen_of_row W2 p j _ _ b2
  obtain ⟨W3,hW3⟩ : ∃ W3,W3=W2.setCell ⟨p,1,none⟩ (.slice A2 L'.length c2'):=⟨_,rfl⟩
  have t3:Tn (fun b=>b=p) W2 W3:=by rw [hW3];exact (Tn.refl (fun b=>b=p) W2).set_ (p:=⟨p,1,none⟩) (Or.inr rfl) _
  have HCI:=Lib.hid (cloneI_any B' m' d' l' W3 (Rws.tn (Rws.then_ HRI.out hb2) t3 (HII.out.apart HNO.out)) HM1.out)
  have b3:W3.heap[p]?=some (.cells #[.int .u64 (f1:Int),.slice A2 L'.length c2',.slice B m d] 166 (0,0)):=by rw [hW3];exact blk_set (i:=1) b2 _
  have hpl3:p<W3.heap.size:=lt_of_block b3
  have HB3:=Lib.hid b3
  have HPL:=Lib.hid hpl3
  have HW3:=Lib.hid hW3
  have HO2:=Lib.hid ho2
  have HB2:=Lib.hid hb2
  clear b2 hW3 t3 b3 hpl hpl3 ho2 hb2 c0 c1 c2 f0
  go_wp2_with fail
  rw [← HW3.out]
  refine HCI.out.mono ?_
  rintro e W4 ⟨B2,d2,rfl,ho4,hb4⟩
  have b4:=below_old hb4 HB3.out HPL.out
  have k2':=cell2 (r:=[]) b4
  have kf':=fun j=>frozen_of_row W4 p j _ _ b4
  have HFIN:=Lib.hid (HP.out.cut HLD.out HLE.out HF.out HGM.out HF1.out HW1.out HB2.out HO2.out HW3.out hb4 ho4)
  clear b4 ho4 hb4 k0 k1 k2 kf
  go_wp2_with fail
  go_ret
  exact ⟨rfl,HFIN.out.1,HFIN.out.2⟩
open Go.RowKit
open Pl (Un)
variable {w:World} {p:Nat} {F:Nat→Prop} {fr:Nat} {N:Int} {P:List Pl.Op}
structure PuH (w V:World) (p:Nat) (F:Nat→Prop) (fr:Nat) (N:Int) (P:List Pl.Op) (x y:Int) (A:Option Addr) (n c:Nat) (l:List Un) (b:Bool) (gB oB m d k:Nat) (N1 ra rb:Int):Prop where
 oa:OAt V w.heap.size x y A n c b
 bel:Below w.heap.size w V
 pa:PastAt V p F fr N P
 pw:∃ A' n' c' L',PastW V p F fr N P A' n' c' (some ⟨gB,oB,none⟩) m d L'
 un:Uns V V.heap.size A n c l
 kk:k=P.length
 km:k<m
 n1:N1=N + Pl.total P
 cn:∀ w1,Below V.heap.size V w1→w1.cell? ⟨gB,oB + k,none⟩=some (.int .i64 N1)
 lo:∀ w1,Below V.heap.size V w1→Calls Tryz.prog 74 #[.slice A n c,.int .i64 N1] w1 fun e w'=>e=.returned (.tuple #[.int .i64 ra,.int .i64 rb])∧Below w1.heap.size w1 w'
theorem PuH.make (h:PastAt w p F fr N P) (x y:Int) (A:Option Addr) (n c:Nat) (l:List Un) (b:Bool) (h1:Uns w w.heap.size A n c l) (hn:n * 40≤140737488355328) (hN:N + Pl.total P≤1152921504606846976) (ra rb:Int) (hl:Pl.longL l (N + Pl.total P)=(ra,rb)) :
  ∃ gB oB m d k N1,PuH w (w.alloc (.cells #[.int .u32 x,.int .u64 y,.slice A n c,.bool b] 45)) p F fr N P x y A n c l b gB oB m d k N1 ra rb:=by
 obtain ⟨V,hV⟩ : ∃ V,V=w.alloc (.cells #[.int .u32 x,.int .u64 y,.slice A n c,.bool b] 45):=⟨_,rfl⟩
 have hb:Below w.heap.size w V:=by rw [hV];exact below_box _ _
 have ho:OAt V w.heap.size x y A n c b:=by rw [hV];exact heap_new rfl
 rw [← hV]
 have hpa:=h.then_ hb
 obtain ⟨A',n',c',B,m,d,L',hw⟩:=hpa
 have hm:=hw.m_len
 obtain ⟨gB,oB,rfl,hg,hc⟩:=Rws.int_at hw.len (i:=P.length) (by omega)
 refine ⟨gB,oB,m,d,P.length,N + Pl.total P,⟨ho,hb,⟨A',n',c',_,m,d,L',hw⟩,⟨A',n',c',L',hw⟩,Rws.then_ h1 hb,rfl,by omega,rfl,fun w1 hb1=>?_,fun w1 hb1=>?_⟩⟩
 ·have:=hc P.length (by omega)
  rw [Pl.lens_at N P (Nat.le_refl _),List.take_length] at this
  exact (hb1.cell (p:=⟨gB,oB + P.length,none⟩) hg).trans this
 ·have:=long_big A n c l (N + Pl.total P) w1 (Rws.then_ (Rws.then_ h1 hb) hb1) (by omega) hN
  rwa [hl] at this
set_option maxHeartbeats 400000 in
theorem push_full (h:PastAt w p F fr N P) (x y:Int) (A:Option Addr) (n c:Nat) (l:List Un) (b:Bool) (h1:Uns w w.heap.size A n c l) (hn:n * 40≤140737488355328) (hN:N + Pl.total P≤1152921504606846976) (ra:Int) (hl:Pl.longL l (N + Pl.total P)=(ra,0)) (hfull:fr + P.length=1099511627776∨P.length=256) :
  Calls Tryz.prog 155 #[.pointer (some ⟨p,0,none⟩),.agg #[.int .u32 x,.int .u64 y,.slice A n c,.bool b]] w fun e w'=>e=.returned (.tuple #[.int .u64 0,.int .i64 7])∧Below w.heap.size w w':=by
 obtain ⟨gB,oB,m,d,k,N1,hH⟩:=PuH.make h x y A n c l b h1 hn hN ra 0 hl
 obtain ⟨V,hV⟩ : ∃ V,V=w.alloc (.cells #[.int .u32 x,.int .u64 y,.slice A n c,.bool b] 45):=⟨_,rfl⟩
 rw [← hV] at hH
 obtain ⟨A',n',c',L',hPW⟩:=hH.pw
 obtain ⟨rb,hrb⟩ : ∃ rb:Int,rb=0:=⟨_,rfl⟩
 rw [← hrb] at hH
 have HPW:=Lib.hid hPW
 have HPA:=Lib.hid hH.pa
 have HOA:=Lib.hid hH.oa
 have HN:=Lib.hid (none_past hH.pa)
 have HK:=Lib.hid hH.kk
 have HCN:=Lib.hid hH.cn
 have HLO:=Lib.hid hH.lo
 have HBV:=Lib.hid hH.bel
 have HRB:=Lib.hid hrb
 have zk0:(0:Int)≤(k:Int):=Int.natCast_nonneg _
 have zk1:(k:Int)<(m:Int):=Int.ofNat_lt.2 hH.km
 have HV:=Lib.hid hV
 have HFU:=Lib.hid hfull
 clear h h1 hn hN hl hfull hH hPW hV hrb
 go_enter Tryz.func155,Tryz.ntmps155
 go_wp2_with fail
 rw [← HV.out]
 refine HN.out.mono ?_
 rintro e w' ⟨rfl,hw⟩
 rw [hw]
 clear hw
 go_wp2_with fail
 refine Rg.wp_region_inv (Below V.heap.size V) (Rg.Wd.at [.is (.pointer (some ⟨w.heap.size,2,none⟩)),.is (.slice A n c),.is (.pointer (some ⟨p,0,none⟩)),.is (.pointer (some ⟨p,0,none⟩)),.is (.pointer (some ⟨p,2,none⟩)),.is (.slice (some ⟨gB,oB,none⟩) m d),.is (.pointer (some ⟨p,0,none⟩)),.is (.int .i64 (k:Int)),.is (.pointer (some ⟨gB,oB + k,none⟩)),.is (.int .i64 N1),.is (.tuple #[.int .i64 ra,.int .i64 rb]),.is (.tuple #[.int .i64 ra,.int .i64 rb]),.is (.int .i64 ra),.is (.int .i64 rb),.is (.int .i64 ra),.is (.int .i64 rb)]) (by kernel_rfl) (by kernel_rfl) (Rg.Wd.stays _ _) ((below_drawn (Below.refl _ _))) ⟨?_,?_,?_,?_,?_,?_,?_,?_,?_,?_,?_,?_,?_,?_,?_,?_,trivial⟩ ?_
 ·intro a w1 hS hb hd
  have e3:=hb 3 (Rg.nw (by decide))
  simp [Act.eval] at e3
  exact Rg.does_pure (Rg.wanted_none rfl) (by simp [execOp,e3,go_sem]) hS rfl
 ·intro a w1 hS hb hd
  have e11:=hd ⟨0,.data⟩ (by simp) rfl _ _ rfl rfl
  have e11:a.tmps[11]?.getD undef=(.pointer (some ⟨w.heap.size,2,none⟩)):=Rg.slot e11
  exact Rg.does_pure (Rg.wanted_none rfl) (by simp [execOp,e11,(HOA.out.then_ hS).cells.2.2.1,go_sem]) hS rfl
 ·intro a w1 hS hb hd
  have e0:=hb 0 (Rg.nw (by decide))
  simp [Act.eval] at e0
  exact Rg.does_pure (Rg.wanted_none rfl) (by simp [execOp,e0,go_sem]) hS rfl
 ·intro a w1 hS hb hd
  have e13:=hd ⟨2,.data⟩ (by simp) rfl _ _ rfl rfl
  have e13:a.tmps[13]?.getD undef=(.pointer (some ⟨p,0,none⟩)):=Rg.slot e13
  exact Rg.does_pure (Rg.wanted_none rfl) (by simp [execOp,e13,go_sem]) hS rfl
 ·intro a w1 hS hb hd
  have e14:=hd ⟨3,.data⟩ (by simp) rfl _ _ rfl rfl
  have e14:a.tmps[14]?.getD undef=(.pointer (some ⟨p,0,none⟩)):=Rg.slot e14
  exact Rg.does_pure (Rg.wanted_none rfl) (by simp [execOp,e14,go_sem]) hS rfl
 ·intro a w1 hS hb hd
  have e15:=hd ⟨4,.data⟩ (by simp) rfl _ _ rfl rfl
  have e15:a.tmps[15]?.getD undef=(.pointer (some ⟨p,2,none⟩)):=Rg.slot e15
  exact Rg.does_pure (Rg.wanted_none rfl) (by simp [execOp,e15,(HPW.out.then_ hS).cells.2.2,go_sem]) hS rfl
 ·intro a w1 hS hb hd
  have e0:=hb 0 (Rg.nw (by decide))
  simp [Act.eval] at e0
  exact Rg.does_pure (Rg.wanted_none rfl) (by simp [execOp,e0,go_sem]) hS rfl
 ·intro a w1 hS hb hd
  have e17:=hd ⟨6,.data⟩ (by simp) rfl _ _ rfl rfl
  have e17:a.tmps[17]?.getD undef=(.pointer (some ⟨p,0,none⟩)):=Rg.slot e17
  refine Rg.does_call (f:=154) (args:=#[.pointer (some ⟨p,0,none⟩)]) (Rg.wanted_none rfl) (by simp [e17,go_sem]) ?_
  refine (len_past (HPA.out.then_ hS)).mono ?_;rintro e w3 ⟨rfl,rfl⟩;exact ⟨_,rfl,by rw [HK.out];rfl,hS,Below.refl _ _⟩
 ·intro a w1 hS hb hd
  have e16:=hd ⟨5,.data⟩ (by simp) rfl _ _ rfl rfl
  have e16:a.tmps[16]?.getD undef=(.slice (some ⟨gB,oB,none⟩) m d):=Rg.slot e16
  have e18:=hd ⟨7,.data⟩ (by simp) rfl _ _ rfl rfl
  have e18:a.tmps[18]?.getD undef=(.int .i64 (k:Int)):=Rg.slot e18
  exact Rg.does_pure (Rg.wanted_none rfl) (by simp [execOp,e16,e18,zk0,zk1,go_sem]) hS rfl
 ·intro a w1 hS hb hd
  have e19:=hd ⟨8,.data⟩ (by simp) rfl _ _ rfl rfl
  have e19:a.tmps[19]?.getD undef=(.pointer (some ⟨gB,oB + k,none⟩)):=Rg.slot e19
  exact Rg.does_pure (Rg.wanted_none rfl) (by simp [execOp,e19,(HCN.out w1 hS),go_sem]) hS rfl
 ·intro a w1 hS hb hd
  have e12:=hd ⟨1,.data⟩ (by simp) rfl _ _ rfl rfl
  have e12:a.tmps[12]?.getD undef=(.slice A n c):=Rg.slot e12
  have e20:=hd ⟨9,.data⟩ (by simp) rfl _ _ rfl rfl
  have e20:a.tmps[20]?.getD undef=(.int .i64 N1):=Rg.slot e20
  refine Rg.does_call (f:=74) (args:=#[.slice A n c,.int .i64 N1]) (Rg.wanted_none rfl) (by simp [e12,e20,go_sem]) ?_
  refine (HLO.out w1 hS).mono ?_;rintro e w3 ⟨rfl,hb⟩;exact ⟨_,rfl,rfl,below_then hS hb,hb⟩
 ·intro a w1 hS hb hd
  have e21:=hd ⟨10,.data⟩ (by simp) rfl _ _ rfl rfl
  have e21:a.tmps[21]?.getD undef=(.tuple #[.int .i64 ra,.int .i64 rb]):=Rg.slot e21
  exact Rg.does_pure (Rg.wanted_none rfl) (by simp [execOp,e21,go_sem]) hS rfl
 ·intro a w1 hS hb hd
  have e10:=hd ⟨11,.data⟩ (by simp) rfl _ _ rfl rfl
  have e10:a.tmps[10]?.getD undef=(.tuple #[.int .i64 ra,.int .i64 rb]):=Rg.slot e10
  exact Rg.does_pure (Rg.wanted_none rfl) (by simp [execOp,e10,go_sem]) hS rfl
 ·intro a w1 hS hb hd
  have e10:=hd ⟨11,.data⟩ (by simp) rfl _ _ rfl rfl
  have e10:a.tmps[10]?.getD undef=(.tuple #[.int .i64 ra,.int .i64 rb]):=Rg.slot e10
  exact Rg.does_pure (Rg.wanted_none rfl) (by simp [execOp,e10,go_sem]) hS rfl
 ·intro a w1 hS hb hd
  have e22:=hd ⟨12,.data⟩ (by simp) rfl _ _ rfl rfl
  have e22:a.tmps[22]?.getD undef=(.int .i64 ra):=Rg.slot e22
  exact Rg.does_pure (Rg.wanted_none rfl) (by simp [execOp,e22,go_sem]) hS rfl
 ·intro a w1 hS hb hd
  have e23:=hd ⟨13,.data⟩ (by simp) rfl _ _ rfl rfl
  have e23:a.tmps[23]?.getD undef=(.int .i64 rb):=Rg.slot e23
  exact Rg.does_pure (Rg.wanted_none rfl) (by simp [execOp,e23,go_sem]) hS rfl
 ·intro v w3 hS hv
  have v6:=hv 14 _ _ rfl rfl
  have v7:=hv 15 _ _ rfl rfl
  have HB:=Lib.hid (below_then HBV.out hS)
  have HNW:=Lib.hid (now_past (HPA.out.then_ hS))
  have HLE:=Lib.hid (len_past (HPA.out.then_ hS))
  rw [← HK.out] at HNW HLE
  clear hS hv
  simp only [Rg.putAll,Nat.zero_add,Nat.reduceAdd]
  simp only [Act.put,List.setIfInBounds_toArray,List.set_cons_succ,List.set_cons_zero]
  rw [v6,v7,HRB.out]
  obtain ⟨nw,hnw⟩ : ∃ nw,nw=fr + k:=⟨_,rfl⟩
  rw [← hnw] at HNW
  have hfu:=HFU.out
  rw [← HK.out,← hnw] at hfu
  by_cases h1:nw=1099511627776
  ·have z1:((nw:Int) == 1099511627776)=true:=by rw [h1];rfl
   clear hnw hfu h1
   go_wp2_with fail
   refine HNW.out.mono ?_
   rintro e w' ⟨rfl,hw⟩
   rw [hw]
   clear hw
   go_wp2_with fail
   go_returns
   exact ⟨rfl,HB.out⟩
  ·have hk:k=256:=by omega
   have z1:((nw:Int) == 1099511627776)=false:=by simp;omega
   subst hk
   clear hnw hfu h1
   go_wp2_with fail
   refine HNW.out.mono ?_
   rintro e w' ⟨rfl,hw⟩
   rw [hw]
   clear hw
   go_wp2_with fail
   refine HLE.out.mono ?_
   rintro e w' ⟨rfl,hw⟩
   rw [hw]
   clear hw
   go_wp2_with fail
   go_returns
   exact ⟨rfl,HB.out⟩
end Go.Proofs.YtlgdcelgkiipaaaGreat
