/-
  What an act does to a document: Edit's, whose region draws its order; all of them. Conditions: the act's numbers are what their types can be.
  A map in memory whose elements are told as they lie there (slices, pointers, numbers): made, read, written, kept. Nothing of a program is named but its own run: the types' numbers are left open. Conditions: those that each states.
-/
import Derived.Test.YtlgdcelgkiipaaaGreatOc47
import Derived.Test.YtlgdcelgkiipaaaGreatOc00
import Derived.Maps.OwnSet
import Derived.Maps.OwnOps
import Derived.Maps.Views
set_option maxRecDepth 100000
set_option linter.unusedVariables false
namespace Go.Proofs.YtlgdcelgkiipaaaGreat
open Go.RowKit
open Pl (Un)
section
variable {W0 w w':World} {D m ans i:Nat} {k:Nat→Nat} {X:Pl.Dc × Pl.An} {L:Nat→Bool}
def EdFin (W0:World) (D m ans:Nat) (k:Nat→Nat) (X:Pl.Dc × Pl.An) (w:World):Prop :=
 ∃ wB w1 k2 m2 A1 n1 c1 B1 p1 q1 C1 r1 s1,Below W0.heap.size W0 wB∧DocAt w1 D k2 X.1 m2∧m2≤m + 256∧Tn (fun b=>k b≠0∨b=ans) wB w1∧(∀ b,b<wB.heap.size→k2 b=k b) ∧
  AnR w1 (fun b=>wB.heap.size≤b∧k2 b=0) A1 n1 c1 B1 p1 q1 C1 r1 s1 X.2∧AnAt w1 ans X.2.e (X.2.rev:Int) X.2.whole A1 n1 c1 B1 p1 q1 C1 r1 s1∧w=w1
def EdS (W0:World) (D m ans:Nat) (k:Nat→Nat) (X:Pl.Dc × Pl.An) (L:Nat→Bool) (w:World):Prop :=
 (L 11=false→Below W0.heap.size W0 w)∧Tn (fun b=>k b≠0∨b=ans) W0 w∧(L 12=true→L 11=true)∧(L 11=true→L 5=true∧L 9=true)∧(L 12=true→EdFin W0 D m ans k X w)∧(L 12=false→AnAt w ans 0 0 false none 0 0 none 0 0 none 0 0)
def EdT (k:Nat→Nat) (ans:Nat) (i:Nat) (w w':World):Prop:=Tn (fun b=>if i=11 then k b≠0 else b=ans) w w'
def EdRow (W0:World) (l:List Un) (v:Value) (w:World):Prop:=∃ A c,v=.slice A l.length c∧OwnU w W0.heap.size (.slice A l.length c) l
def EdAns (W0:World) (D m ans:Nat) (k:Nat→Nat) (X:Pl.Dc × Pl.An) (v:Value) (w:World):Prop:=∃ wB w1,Below W0.heap.size W0 wB∧DocP wB D k m X (.returned v) w1∧Tn (fun b=>b=ans) w1 w
theorem edT_refl (k:Nat→Nat) (ans i:Nat) (w:World):EdT k ans i w w:=Tn.refl _ _
theorem EdS.stay (h:EdS W0 D m ans k X L w) (hi:i≠11∧i≠12):EdS W0 D m ans k X (Rq.up L i) w:=by
 have e:Rq.up L i 11=L 11:=by simp [Rq.up,hi.1]
 have e2:Rq.up L i 12=L 12:=by simp [Rq.up,hi.2]
 unfold EdS
 rw [e,e2]
 exact ⟨h.1,h.2.1,h.2.2.1,fun hb=>⟨up_mono (h.2.2.2.1 hb).1,up_mono (h.2.2.2.1 hb).2⟩,h.2.2.2.2⟩
theorem EdS.no (h:EdS W0 D m ans k X L w) (hi:i=5∨i=9) (hL:L i=false):L 11=false∧L 12=false:=by
 have h11:L 11=false:=by
  cases e:L 11 with
  | false=>rfl
  | true =>
   have:=h.2.2.2.1 e
   rcases hi with rfl | rfl
   ·rw [this.1] at hL;cases hL
   ·rw [this.2] at hL;cases hL
 refine ⟨h11,?_⟩
 cases e:L 12 with
 | false=>rfl
 | true=>have:=h.2.2.1 e;rw [h11] at this;cases this
theorem EdS.next (h:EdS W0 D m ans k X L w) (hi:i=5∨i=9) (hL:L i=false) (hb:Below w.heap.size w w'):EdS W0 D m ans k X (Rq.up L i) w':=by
 obtain ⟨h11,h12⟩:=h.no hi hL
 have hi2:i≠11∧i≠12:=by omega
 have e:Rq.up L i 11=L 11:=by simp [Rq.up,hi2.1]
 have e2:Rq.up L i 12=L 12:=by simp [Rq.up,hi2.2]
 unfold EdS
 rw [e,e2]
 exact ⟨fun _=>below_then (h.1 h11) hb,h.2.1.trans (Tn.of _ hb) fun _ _ h=>h,h.2.2.1,fun hb=>⟨up_mono (h.2.2.2.1 hb).1,up_mono (h.2.2.2.1 hb).2⟩,(fun e=>by rw [h12] at e;cases e),fun _=>(h.2.2.2.2.2 h12).then_ hb⟩
theorem EdS.called (h:EdS W0 D m ans k X L w) (hL:L 11=false) (h5:L 5=true) (h9:L 9=true) (hka:k ans=0) (ht:Tn (fun b=>k b≠0) w w'):EdS W0 D m ans k X (Rq.up L 11) w':=by
 have h12:L 12=false:=by
  cases e:L 12 with
  | false=>rfl
  | true=>have:=h.2.2.1 e;rw [hL] at this;cases this
 have e:Rq.up L 11 11=true:=by simp [Rq.up]
 have e2:Rq.up L 11 12=L 12:=by simp [Rq.up]
 unfold EdS
 rw [e,e2]
 exact ⟨(fun h=>by cases h),h.2.1.trans ht fun _ _ h=>.inl h,fun _=>rfl,fun _=>⟨up_mono h5,up_mono h9⟩,(fun e=>by rw [h12] at e;cases e),fun _=>(h.2.2.2.2.2 h12).tn ht (fun hn=>hn hka)⟩
theorem EdS.laid (h:EdS W0 D m ans k X L w) (h11:L 11=true) (hf:EdFin W0 D m ans k X w') (ht:Tn (fun b=>b=ans) w w'):EdS W0 D m ans k X (Rq.up L 12) w':=by
 have e:Rq.up L 12 11=L 11:=by simp [Rq.up]
 have e2:Rq.up L 12 12=true:=by simp [Rq.up]
 unfold EdS
 rw [e,e2]
 exact ⟨(fun h=>by rw [h11] at h;cases h),h.2.1.trans ht fun _ _ h=>.inr h,fun _=>h11,fun hb=>⟨up_mono (h.2.2.2.1 hb).1,up_mono (h.2.2.2.1 hb).2⟩,fun _=>hf,fun h=>by cases h⟩
theorem EdRow.tn {l:List Un} {v:Value} {T:Nat→Prop} (h:EdRow W0 l v w) (ht:Tn T w w') (hT:∀ b,T b→b<W0.heap.size):EdRow W0 l v w':=by
 obtain ⟨A,c,e,h1⟩:=h
 exact ⟨A,c,e,OwnR.tn h1 ht fun g hg hx=>by have:=(OwnR.lt h1 g hg).1;have:=hT g hx;omega⟩
theorem EdAns.tn {v:Value} (h:EdAns W0 D m ans k X v w) (ht:Tn (fun b=>b=ans) w w'):EdAns W0 D m ans k X v w':=by
 obtain ⟨wB,w1,h1,h2,h3⟩:=h
 exact ⟨wB,w1,h1,h2,h3.trans ht fun _ _ h=>h⟩
theorem EdAns.fin {v:Value} (h:EdAns W0 D m ans k X v w) (hW:ans<W0.heap.size) (hka:k ans=0) (hA:AnAt w ans 0 0 false none 0 0 none 0 0 none 0 0) :
  ∃ A1 n1 c1 B1 p1 q1 C1 r1 s1,v=aval X.2.e (X.2.rev:Int) X.2.whole A1 n1 c1 B1 p1 q1 C1 r1 s1 ∧
   EdFin W0 D m ans k X (seven w ans (.int .i64 X.2.e) (.int .u32 0) (.int .u64 (X.2.rev:Int)) (.bool X.2.whole) (.slice A1 n1 c1) (.slice B1 p1 q1) (.slice C1 r1 s1)):=by
 obtain ⟨wB,w1,hb,⟨k2,m2,v2,e,hd,hm,hv,A1,n1,c1,B1,p1,q1,C1,r1,s1,e2,hr⟩,ht⟩:=h
 have e3:v=v2:=by injection e
 subst e3
 have hz:=hb.size
 have hk2:k2 ans=0:=(hv.eq ans (by omega)).trans hka
 have tt:=tn_seven w ans (.int .i64 X.2.e) (.int .u32 0) (.int .u64 (X.2.rev:Int)) (.bool X.2.whole) (.slice A1 n1 c1) (.slice B1 p1 q1) (.slice C1 r1 s1)
 have t2:=ht.trans tt fun _ _ h=>h
 refine ⟨A1,n1,c1,B1,p1,q1,C1,r1,s1,e2,wB,_,k2,m2,A1,n1,c1,B1,p1,q1,C1,r1,s1,hb,hd.tn t2 (fun b hb e=>hb (by rw [e];exact hk2)),hm,(hv.tn.more fun _ _ h=>.inl h).trans t2 fun _ _ h=>.inr h,hv.eq,hr.tn t2 (fun b hb e=>by have:=hb.1;omega),hA.sets _ _ _ _ _ _ _ _ _ _ _ _,rfl⟩
end
section
variable {w:World} {D m:Nat} {k:Nat→Nat} {d:Pl.Dc} {x y p now:Int} {r n c t:Nat} {A:Option Addr} {raw:Bool}
set_option maxHeartbeats 4000000 in
theorem does2_any (h:DocAt w D k d m) (hc:0≤x∧x<4294967296) (hr:r≤18446744073709551615) (l:List Un) (hu:Uns w w.heap.size A n c l) (h0:0≤now) (hnow:now≤1099511627776) (ht:d.t + 1<18446744073709551616) (hm:m + 256≤1073741824) :
  Calls Tryz.prog 10 #[.pointer (some ⟨D,0,none⟩),.agg #[.int .i64 2,.int .u32 x,.int .u64 y,.int .u64 (r:Int),.int .i64 p,.slice A n c,.bool raw,.int .u8 (t:Int)],.int .u64 now] w (DocP w D k m (d.edit x y r (⟨2,x,y,r,p,A,n,c,l,raw,t⟩ : ActD).row now)):=by
 obtain ⟨X,hX⟩ : ∃ X,X=d.edit x y r (⟨2,x,y,r,p,A,n,c,l,raw,t⟩ : ActD).row now:=⟨_,rfl⟩
 rw [← hX]
 obtain ⟨R,hR⟩ : ∃ R,R=DocP w D k m X:=⟨_,rfl⟩
 rw [← hR]
 have HR:=Lib.hid hR
 have HX:=Lib.hid hX
 have HH:=Lib.hid h
 clear h hR hX
 go_enter Tryz.func10,Tryz.ntmps10
 go_wp2_with fail
 obtain ⟨os,hos⟩ : ∃ os:List Obj,os=[.cells #[.int .i64 2,.int .u32 x,.int .u64 y,.int .u64 (r:Int),.int .i64 p,.slice A n c,.bool raw,.int .u8 (t:Int)] 31,.cells #[.int .i64 0,.int .u32 0,.int .u64 0,.bool false,.slice none 0 0,.slice none 0 0,.slice none 0 0] 37]:=⟨_,rfl⟩
 have hW:allocs w os=(w.alloc (.cells #[.int .i64 2,.int .u32 x,.int .u64 y,.int .u64 (r:Int),.int .i64 p,.slice A n c,.bool raw,.int .u8 (t:Int)] 31)).alloc (.cells #[.int .i64 0,.int .u32 0,.int .u64 0,.bool false,.slice none 0 0,.slice none 0 0,.slice none 0 0] 37):=by rw [hos];rfl
 rw [← hW]
 have hB:=allocs_below os w
 have e0:=allocs_at os w 0 _ (by rw [hos];rfl)
 have e1:=allocs_at os w 1 _ (by rw [hos];rfl)
 clear hW hos
 generalize allocs w os=W0 at hB e0 e1 ⊢
 clear os
 have hlt:=HH.out.lt
 have HE:=Lib.hid (And.intro hB (And.intro hlt (show AnAt W0 (w.heap.size + 1) 0 0 false none 0 0 none 0 0 none 0 0 from e1)))
 have HB0:=Lib.hid (show W0.heap[w.heap.size]?=some (.cells #[.int .i64 2,.int .u32 x,.int .u64 y,.int .u64 (r:Int),.int .i64 p,.slice A n c,.bool raw,.int .u8 (t:Int)] 31 (0,0)) from e0)
 have HKC:=Lib.hid (fun (wE:World) (hw:wE.heap[w.heap.size]?=some (.cells #[.int .i64 2,.int .u32 x,.int .u64 y,.int .u64 (r:Int),.int .i64 p,.slice A n c,.bool raw,.int .u8 (t:Int)] 31 (0,0)))=>show wE.cell? ⟨w.heap.size,0,none⟩=some (.int .i64 2)∧wE.cell? ⟨w.heap.size,1,none⟩=some (.int .u32 x)∧wE.cell? ⟨w.heap.size,2,none⟩=some (.int .u64 y)∧wE.cell? ⟨w.heap.size,3,none⟩=some (.int .u64 (r:Int))∧wE.cell? ⟨w.heap.size,4,none⟩=some (.int .i64 p)∧wE.cell? ⟨w.heap.size,5,none⟩=some (.slice A n c)∧wE.cell? ⟨w.heap.size,6,none⟩=some (.bool raw)∧wE.cell? ⟨w.heap.size,7,none⟩=some (.int .u8 (t:Int)) from ⟨by rw [cell_of_row wE w.heap.size 0 _ _ _ hw];rfl,by rw [cell_of_row wE w.heap.size 1 _ _ _ hw];rfl,by rw [cell_of_row wE w.heap.size 2 _ _ _ hw];rfl,by rw [cell_of_row wE w.heap.size 3 _ _ _ hw];rfl,by rw [cell_of_row wE w.heap.size 4 _ _ _ hw];rfl,by rw [cell_of_row wE w.heap.size 5 _ _ _ hw];rfl,by rw [cell_of_row wE w.heap.size 6 _ _ _ hw];rfl,by rw [cell_of_row wE w.heap.size 7 _ _ _ hw];rfl⟩)
 obtain ⟨RL,hL⟩ : ∃ RL,RL=(⟨2,x,y,r,p,A,n,c,l,raw,t⟩ : ActD).row:=⟨_,rfl⟩
 have hLl:RL.length≤300:=by
  rw [hL]
  unfold ActD.row
  dsimp only
  split
  ·rw [List.length_take];omega
  ·rw [List.length_map,List.length_take];omega
 have HRO:=Lib.hid (fun (wE:World) (hb:Below W0.heap.size W0 wE)=>show Calls Tryz.prog 47 #[.agg #[.int .i64 2,.int .u32 x,.int .u64 y,.int .u64 (r:Int),.int .i64 p,.slice A n c,.bool raw,.int .u8 (t:Int)]] wE (RetU wE RL) from by
  rw [hL]
  exact actrow_any (⟨2,x,y,r,p,A,n,c,l,raw,t⟩ : ActD) wE (Rws.then_ hu (HE.out.1.trans (hb.mono HE.out.1.size))))
 have HED:=Lib.hid (fun (wE:World) (hb:Below W0.heap.size W0 wE) B dB (ho:OwnU wE W0.heap.size (.slice B RL.length dB) RL)=>show Calls Tryz.prog 15 #[.pointer (some ⟨D,0,none⟩),.agg #[.int .u32 x,.int .u64 y],.int .u64 (r:Int),.slice B RL.length dB,.int .u64 now] wE (DocP wE D k m X) from by
  rw [HX.out,← hL]
  have hk:=KpU.new (k:=k) (fun b hb=>by have:=HE.out.2.1 b hb;have:=HE.out.1.size;omega) ho
  exact edit_any ((HH.out.then_ HE.out.1).then_ hb) hc r hr B RL.length dB RL hk.uns hk.off (by omega) now h0 hnow ht hm)
 have hka:k (w.heap.size + 1)=0:=box_zero k _ hlt (by omega)
 have hkb:k w.heap.size=0:=box_zero k _ hlt (Nat.le_refl _)
 have hal:=HE.out.2.2.lt
 have HN:=Lib.hid (show (k (w.heap.size + 1)=0∧w.heap.size + 1<W0.heap.size)∧(∀ b,k b≠0→b<W0.heap.size)∧¬ (k w.heap.size≠0∨w.heap.size=w.heap.size + 1) from ⟨⟨hka,hal⟩,fun b hb=>by have:=hlt b hb;have:=hB.size;omega,fun h=>h.elim (fun h=>h hkb) (fun h=>by omega)⟩)
 have HBX:=Lib.hid (fun (L':Nat→Bool) (wE:World) (hS:EdS W0 D m (w.heap.size + 1) k X L' wE)=>HKC.out wE (hS.2.1.old HB0.out HN.out.2.2))
 clear hB e0 e1 hlt hL hLl hu hka hkb hal
 refine Rq.wp_region_inv (EdS W0 D m (w.heap.size + 1) k X) (EdT k (w.heap.size + 1)) (Rq.Wd.at [.is (.pointer (some ⟨D,0,none⟩)),.is (.pointer (some ⟨w.heap.size,1,none⟩)),.is (.int .u32 x),.is (.pointer (some ⟨w.heap.size,2,none⟩)),.is (.int .u64 y),.is (.agg #[.int .u32 x,.int .u64 y]),.is (.pointer (some ⟨w.heap.size,3,none⟩)),.is (.int .u64 (r:Int)),.is (.agg #[.int .i64 2,.int .u32 x,.int .u64 y,.int .u64 (r:Int),.int .i64 p,.slice A n c,.bool raw,.int .u8 (t:Int)]),.pred (EdRow W0 RL),.is (.int .u64 now),.pred (EdAns W0 D m (w.heap.size + 1) k X),.any]) (by kernel_rfl) (by kernel_rfl) (Rq.Wd.stays _ _ (fun i q hi=>(by rcases i with _ | _ | _ | _ | _ | _ | _ | _ | _ | _ | _ | _ | _ | i <;> simp at hi <;> (subst hi;first | exact fun i v w1 w2 _ h hr=>EdRow.tn h hr (fun b hb=>by split at hb;exact HN.out.2.1 b hb;(have:=HN.out.1.2;omega)) | exact fun i v w1 w2 hne h hr=>EdAns.tn h (hr.more fun b _ hb=>by rw [if_neg (Ne.symm hne)] at hb;exact hb))))) (⟨fun _=>below_drawn (Below.refl _ _),Tn.of _ (below_drawn (Below.refl _ _)),(fun e=>by cases e),(fun e=>by cases e),(fun e=>by cases e),fun _=>HE.out.2.2.then_ (below_drawn (Below.refl _ _))⟩) ⟨?_,?_,?_,?_,?_,?_,?_,?_,?_,?_,?_,?_,?_,trivial⟩ ?_
 ·intro L a w1 hL hS hb hd
  have e0:=hb 0 (Rq.nw (by decide))
  simp [Act.eval] at e0
  exact Rq.does_pure (Rq.wanted_none rfl) (by simp [execOp,e0,go_sem]) rfl (hS.stay (by decide)) (edT_refl _ _ _ _)
 ·intro L a w1 hL hS hb hd
  have e4:=hb 4 (Rq.nw (by decide))
  simp [Act.eval] at e4
  exact Rq.does_pure (Rq.wanted_none rfl) (by simp [execOp,e4,go_sem]) rfl (hS.stay (by decide)) (edT_refl _ _ _ _)
 ·intro L a w1 hL hS hb hd
  have p28:=(hd ⟨1,.data⟩ (by simp) rfl).2 _ _ rfl rfl
  have e28:a.tmps[28]?.getD undef=(.pointer (some ⟨w.heap.size,1,none⟩)):=Rq.slot p28
  exact Rq.does_pure (Rq.wanted_none rfl) (by simp [execOp,e28,(HBX.out L w1 hS).2.1,go_sem]) rfl (hS.stay (by decide)) (edT_refl _ _ _ _)
 ·intro L a w1 hL hS hb hd
  have e4:=hb 4 (Rq.nw (by decide))
  simp [Act.eval] at e4
  exact Rq.does_pure (Rq.wanted_none rfl) (by simp [execOp,e4,go_sem]) rfl (hS.stay (by decide)) (edT_refl _ _ _ _)
 ·intro L a w1 hL hS hb hd
  have p30:=(hd ⟨3,.data⟩ (by simp) rfl).2 _ _ rfl rfl
  have e30:a.tmps[30]?.getD undef=(.pointer (some ⟨w.heap.size,2,none⟩)):=Rq.slot p30
  exact Rq.does_pure (Rq.wanted_none rfl) (by simp [execOp,e30,(HBX.out L w1 hS).2.2.1,go_sem]) rfl (hS.stay (by decide)) (edT_refl _ _ _ _)
 ·intro L a w1 hL hS hb hd
  have p29:=(hd ⟨2,.data⟩ (by simp) rfl).2 _ _ rfl rfl
  have e29:a.tmps[29]?.getD undef=(.int .u32 x):=Rq.slot p29
  have p31:=(hd ⟨4,.data⟩ (by simp) rfl).2 _ _ rfl rfl
  have e31:a.tmps[31]?.getD undef=(.int .u64 y):=Rq.slot p31
  refine Rq.does_call (f:=16) (args:=#[.int .u32 x,.int .u64 y]) (Rq.wanted_none rfl) (by simp [e29,e31,go_sem]) ?_
  exact (id13_any x y w1).mono fun e w3 ⟨h1,h2⟩=>⟨_,h1,rfl,hS.next (.inl rfl) hL h2,Tn.of _ h2⟩
 ·intro L a w1 hL hS hb hd
  have e4:=hb 4 (Rq.nw (by decide))
  simp [Act.eval] at e4
  exact Rq.does_pure (Rq.wanted_none rfl) (by simp [execOp,e4,go_sem]) rfl (hS.stay (by decide)) (edT_refl _ _ _ _)
 ·intro L a w1 hL hS hb hd
  have p33:=(hd ⟨6,.data⟩ (by simp) rfl).2 _ _ rfl rfl
  have e33:a.tmps[33]?.getD undef=(.pointer (some ⟨w.heap.size,3,none⟩)):=Rq.slot p33
  exact Rq.does_pure (Rq.wanted_none rfl) (by simp [execOp,e33,(HBX.out L w1 hS).2.2.2.1,go_sem]) rfl (hS.stay (by decide)) (edT_refl _ _ _ _)
 ·intro L a w1 hL hS hb hd
  have e4:=hb 4 (Rq.nw (by decide))
  simp [Act.eval] at e4
  exact Rq.does_pure (Rq.wanted_none rfl) (by simp [execOp,e4,(HBX.out L w1 hS).1,(HBX.out L w1 hS).2.1,(HBX.out L w1 hS).2.2.1,(HBX.out L w1 hS).2.2.2.1,(HBX.out L w1 hS).2.2.2.2.1,(HBX.out L w1 hS).2.2.2.2.2.1,(HBX.out L w1 hS).2.2.2.2.2.2.1,(HBX.out L w1 hS).2.2.2.2.2.2.2,go_sem]) rfl (hS.stay (by decide)) (edT_refl _ _ _ _)
 ·intro L a w1 hL hS hb hd
  have p35:=(hd ⟨8,.data⟩ (by simp) rfl).2 _ _ rfl rfl
  have e35:a.tmps[35]?.getD undef=(.agg #[.int .i64 2,.int .u32 x,.int .u64 y,.int .u64 (r:Int),.int .i64 p,.slice A n c,.bool raw,.int .u8 (t:Int)]):=Rq.slot p35
  refine Rq.does_call (f:=47) (args:=#[.agg #[.int .i64 2,.int .u32 x,.int .u64 y,.int .u64 (r:Int),.int .i64 p,.slice A n c,.bool raw,.int .u8 (t:Int)]]) (Rq.wanted_none rfl) (by simp [e35,go_sem]) ?_
  exact (HRO.out w1 (hS.1 (hS.no (.inr rfl) hL).1)).mono fun e w3 ⟨B,dB,h1,h2,h3⟩=>⟨_,h1,⟨B,dB,rfl,OwnR.lower h2 (hS.1 (hS.no (.inr rfl) hL).1).size⟩,hS.next (.inr rfl) hL h3,Tn.of _ h3⟩
 ·intro L a w1 hL hS hb hd
  have e2:=hb 2 (Rq.nw (by decide))
  simp [Act.eval] at e2
  exact Rq.does_pure (Rq.wanted_none rfl) (by simp [execOp,e2,go_sem]) rfl (hS.stay (by decide)) (edT_refl _ _ _ _)
 ·intro L a w1 hL hS hb hd
  have p27:=(hd ⟨0,.data⟩ (by simp) rfl).2 _ _ rfl rfl
  have e27:a.tmps[27]?.getD undef=(.pointer (some ⟨D,0,none⟩)):=Rq.slot p27
  have p32:=(hd ⟨5,.data⟩ (by simp) rfl).2 _ _ rfl rfl
  have e32:a.tmps[32]?.getD undef=(.agg #[.int .u32 x,.int .u64 y]):=Rq.slot p32
  have p34:=(hd ⟨7,.data⟩ (by simp) rfl).2 _ _ rfl rfl
  have e34:a.tmps[34]?.getD undef=(.int .u64 (r:Int)):=Rq.slot p34
  have p36:=(hd ⟨9,.data⟩ (by simp) rfl).2 _ _ rfl rfl
  have p37:=(hd ⟨10,.data⟩ (by simp) rfl).2 _ _ rfl rfl
  have e37:a.tmps[37]?.getD undef=(.int .u64 now):=Rq.slot p37
  obtain ⟨B,dB,hv36,ho⟩:=p36;have e36:=Rq.slot hv36;refine Rq.does_call (f:=15) (args:=#[.pointer (some ⟨D,0,none⟩),.agg #[.int .u32 x,.int .u64 y],.int .u64 (r:Int),.slice B RL.length dB,.int .u64 now]) (Rq.wanted_none rfl) (by simp [e27,e32,e34,e36,e37,go_sem]) ?_;refine (HED.out w1 (hS.1 hL) B dB ho).mono ?_;rintro e w3 hP;obtain ⟨k3,m3,v3,rfl,hd3,hm3,hv3,hr3⟩:=id hP;exact ⟨_,rfl,⟨w1,w3,hS.1 hL,hP,Tn.refl _ _⟩,hS.called hL (hd ⟨5,.data⟩ (by simp) rfl).1 (hd ⟨9,.data⟩ (by simp) rfl).1 HN.out.1.1 hv3.tn,hv3.tn⟩
 ·intro L a w1 hL hS hb hd
  have e6:=hb 6 (Rq.nw (by decide))
  simp [Act.eval] at e6
  have p38:=(hd ⟨11,.data⟩ (by simp) rfl).2 _ _ rfl rfl
  have h11:=(hd ⟨11,.data⟩ (by simp) rfl).1;have hA:=hS.2.2.2.2.2 hL;obtain ⟨A1,n1,c1,B1,p1,q1,C1,r1,s1,ev,hf⟩:=EdAns.fin p38 HN.out.1.2 HN.out.1.1 hA;obtain ⟨d0,d1,d2,d3,d4,d5,d6⟩:=hA.cells;have g7:=hA.frozen;unfold aval at ev;have e38:=Rq.slot ev;exact Rq.does_skip rfl (Rq.wanted_none rfl) (by unfold seven;simp [execOp,e6,e38,d0,d1,d2,d3,d4,d5,d6,g7,go_sem]) trivial (hS.laid h11 hf (tn_seven _ _ _ _ _ _ _ _ _)) (by unfold EdT;exact (tn_seven _ _ _ _ _ _ _ _ _).more fun b _ e=>by rw [if_neg (by decide)];exact e)
 intro L' v wC hS hall hv
 obtain ⟨wB,w1,k2,m2,A1,n1,c1,B1,p1,q1,C1,r1,s1,hb,hd,hm2,htn,heq,hr2,hA,rfl⟩:=hS.2.2.2.2.1 (hall 12 (by decide))
 have HF:=Lib.hid (And.intro hb (And.intro hd (And.intro hm2 (And.intro htn (And.intro heq (And.intro hr2 hA))))))
 simp only [Rq.putAll,Nat.zero_add,Nat.reduceAdd]
 simp only [Act.put,List.setIfInBounds_toArray,List.set_cons_succ,List.set_cons_zero]
 clear hS hall hv hb hd hm2 htn heq hr2 hA HBX HED HRO HKC HX HH
 go_wp2_with fail
 refine bodyPost_ret (results_an rfl (by rfl) HF.out.2.2.2.2.2.2) rfl ?_
 rw [HR.out]
 obtain ⟨hb,hd,hm2,htn,heq,hr2,hA⟩:=HF.out
 have hz0:=HE.out.1.size
 have hz1:=hb.size
 refine ⟨k2,m2,_,rfl,hd,hm2,⟨?_,fun b hb2=>heq b (by omega)⟩,A1,n1,c1,B1,p1,q1,C1,r1,s1,rfl,hr2.more fun b h=>⟨by have:=h.1;omega,h.2⟩⟩
 exact ((Tn.of (fun b=>k b≠0) HE.out.1).trans (Tn.of (fun b=>k b≠0) hb) fun _ _ h=>h).trans htn fun b hb2 h=>h.elim id fun e=>by omega
theorem does_any (h:DocAt w D k d m) (a:ActD) (hf:a.Fit) (hu:Uns w w.heap.size a.A a.n a.c a.l) (now:Int) (h0:0≤now) (hnow:now≤1099511627776) (ht:d.t + 1<18446744073709551616) (hm:m + 256≤1073741824) :
  Calls Tryz.prog 10 #[.pointer (some ⟨D,0,none⟩),a.val,.int .u64 now] w (DocP w D k m (a.does d now)):=by
 obtain ⟨q,x,y,r,p,A,n,c,l,raw,t⟩:=a
 obtain ⟨f1,f2,f3,f4,f5,f6⟩:=hf
 have f7:=f5.out
 unfold ActD.val ActD.does
 simp only at f1 f2 f3 f4 f5 f6 f7 hu ⊢
 by_cases q0:q=0
 ·rw [if_pos q0];subst q0;exact does0_any h f2 f4 h0 hnow ht
 rw [if_neg q0]
 by_cases q1:q=1
 ·rw [if_pos q1];subst q1;exact does1_any h f2 h0 hnow ht
 rw [if_neg q1]
 by_cases q2:q=2
 ·rw [if_pos q2];subst q2;exact does2_any h f2 f4 l hu h0 hnow ht hm
 rw [if_neg q2]
 by_cases q3:q=3
 ·rw [if_pos q3];subst q3;exact does3_any h f2 f4 h0 hnow ht hm
 rw [if_neg q3]
 by_cases q4:q=4
 ·rw [if_pos q4];subst q4;exact does4_any h (by omega) h0 hnow ht
 rw [if_neg q4]
 by_cases q5:q=5
 ·rw [if_pos q5];subst q5;exact does5_any h f2 f4 (by omega) h0 hnow ht
 rw [if_neg q5]
 by_cases q6:q=6
 ·rw [if_pos q6];subst q6;exact does6_any h f2 f4 h0 hnow ht
 rw [if_neg q6]
 by_cases q7:q=7
 ·rw [if_pos q7];subst q7;exact does7_any h f2 h0 hnow ht
 rw [if_neg q7]
 exact does8_any h q q0 q1 q2 q3 q4 q5 q6 q7
end
open Go.RowKit Go.ChangeMaps Go.MapKept
def rawElem (v:Value):Option (DataW Value × List MemPlace):=some (.held v,[])
def MapV (kt:TypeId) (w:World) (b n:Nat) (f:Lit→Option Value):Prop :=
 ∃ D,w.ownsMap Tryz.prog kt rawElem b n D∧Maps.size D=n∧∀ r,WideAt.IsKeyLit r→(∀ z,D.atKey r (.held z)=.held ((f r).getD z))∧Maps.has D r=(f r).isSome
section
variable {kt:TypeId} {w w':World} {b n:Nat} {f:Lit→Option Value} {T:Nat→Prop}
theorem MapV.lt (h:MapV kt w b n f):b<w.heap.size:=by
 obtain ⟨D,h,_⟩:=h
 exact h.lt
theorem MapV.made (kt:TypeId) (w:World):MapV kt (w.alloc (.map #[] 0)) w.heap.size 0 (fun _=>none) :=
 ⟨_,World.ownsMap_made w _ _ _,rfl,fun r hr=>⟨fun z=>rfl,rfl⟩⟩
theorem MapV.tn (h:MapV kt w b n f) (ht:Tn T w w') (hb:¬ T b):MapV kt w' b n f:=by
 obtain ⟨D,⟨es,clock,h1,h2⟩,h3⟩:=h
 exact ⟨D,⟨es,clock,ht.old h1 hb,h2⟩,h3⟩
theorem MapV.then_ (h:MapV kt w b n f) (hb:Below w.heap.size w w'):MapV kt w' b n f:=h.tn (Tn.of (fun _=>False) hb) fun h=>h
theorem MapV.look_ok {t e:TypeId} (h:MapV kt w b n f) (K:Maps.Keyed Tryz.prog kt) (ht:Tryz.prog.underlying t=some (.map kt e)) {z:Value} (hz:(zeroValue e).run Tryz.prog w=.ok z w) {key:Value} {kl:Lit} (hkey:keyOf Tryz.prog kt key=some kl) (hl:WideAt.IsKeyLit kl) :
  (Instr.lookup t (.map (some b)) key true).run Tryz.prog w=.ok (.tuple #[(f kl).getD z,.bool (f kl).isSome]) w:=by
 obtain ⟨D,h1,_,h2⟩:=h
 obtain ⟨v,ps,hrun,hv⟩:=h1.look_ok K ht hz (zd:=.held z) (zp:=[]) rfl hkey
 rw [(h2 kl hl).1 z] at hv
 unfold rawElem at hv
 injection hv with hv
 injection hv with hv _
 injection hv with hv
 rw [hrun,hv,(h2 kl hl).2]
theorem MapV.look {t e:TypeId} (h:MapV kt w b n f) (K:Maps.Keyed Tryz.prog kt) (ht:Tryz.prog.underlying t=some (.map kt e)) {z:Value} (hz:(zeroValue e).run Tryz.prog w=.ok z w) {key:Value} {kl:Lit} (hkey:keyOf Tryz.prog kt key=some kl) (hl:WideAt.IsKeyLit kl) :
  (Instr.lookup t (.map (some b)) key false).run Tryz.prog w=.ok ((f kl).getD z) w:=by
 obtain ⟨D,h1,_,h2⟩:=h
 obtain ⟨v,ps,hrun,hv⟩:=h1.lookup K ht hz (zd:=.held z) (zp:=[]) rfl hkey
 rw [(h2 kl hl).1 z] at hv
 unfold rawElem at hv
 injection hv with hv
 injection hv with hv _
 injection hv with hv
 rw [hrun,hv]
theorem MapV.len {t e:TypeId} (h:MapV kt w b n f) (ht:Tryz.prog.underlying t=some (.map kt e)) (ty:TypeId):(Builtin.len_ #[t] ty #[.map (some b)]).run Tryz.prog w=.ok (.int .i64 (n:Int)) w:=by
 obtain ⟨D,h1,h2,_⟩:=h
 rw [h1.len ht ty,h2]
noncomputable def laidF (f:Lit→Option Value) (kl:Lit) (v:Value):Lit→Option Value:=fun r=>@ite _ (r=kl) (Classical.propDecidable _) (some v) (f r)
theorem laidF_at (f:Lit→Option Value) (kl:Lit) (v:Value):laidF f kl v kl=some v:=if_pos rfl
theorem laidF_ne (f:Lit→Option Value) {kl r:Lit} (v:Value) (h:r≠kl):laidF f kl v r=f r:=if_neg h
theorem mturned_tn (h:w.mapTurned w' b):Tn (fun i=>i=b) w w':=by
 have hg:=h.grown
 exact ⟨hg.os,hg.tape,hg.output,hg.size,fun i hi hn=>hg.block i hi (fun e=>hn (Option.some.inj e))⟩
theorem MapV.store {t e:TypeId} (h:MapV kt w b n f) (K:Maps.Keyed Tryz.prog kt) (ht:Tryz.prog.underlying t=some (.map kt e)) (hn:n<maxLen) {key:Value} (v:Value) {kl:Lit} (hkey:keyOf Tryz.prog kt key=some kl) (hl:WideAt.IsKeyLit kl) :
  ∃ w',(Instr.mapUpdate t (.map (some b)) key v).run Tryz.prog w=.ok () w'∧MapV kt w' b (if (f kl).isSome=true then n else n + 1) (laidF f kl v)∧Tn (fun i=>i=b) w w':=by
 obtain ⟨D,h1,h2,h3⟩:=h
 obtain ⟨w',hrun,h4,h5⟩:=h1.store K ht hn (d:=.held v) (ps:=[]) hkey rfl
 have hsz:Maps.size (D.put kl (.held v))=if (f kl).isSome=true then n else n + 1:=by
  rw [Maps.size_put (h1.tidy K),(h3 kl hl).2,h2]
 refine ⟨w',hrun,⟨_,?_,hsz,fun r hr=>?_⟩,mturned_tn h5⟩
 ·obtain ⟨es,clock,hb,F,hs,hD⟩:=h4
  refine ⟨es,clock,hb,F,?_,hD⟩
  rw [← hsz,hD]
  simp [Maps.size,length_sorted]
 ·by_cases e:r=kl
  ·subst e
   exact ⟨fun z=>by rw [Maps.atKey_put_same h1.isMap hl,laidF_at];rfl,by rw [Maps.has_put_same h1.isMap hl,laidF_at];rfl⟩
  ·exact ⟨fun z=>by rw [Maps.atKey_put_other e,laidF_ne _ _ e];exact (h3 r hr).1 z,by rw [Maps.has_put_other e,laidF_ne _ _ e];exact (h3 r hr).2⟩
theorem MapV.entry {t e:TypeId} (h:MapV kt w b n f) (K:Maps.Keyed Tryz.prog kt) (ht:Tryz.prog.underlying t=some (.map kt e)) {z:Value} (hz:(zeroValue e).run Tryz.prog w=.ok z w) (hn:n<maxLen) {key:Value} {kl:Lit} (hkey:keyOf Tryz.prog kt key=some kl) (hl:WideAt.IsKeyLit kl) (ha:f kl=none) :
  ∃ (s:Value) (w1:World),(Instr.mapEntry t (.map (some b)) key).run Tryz.prog w=.ok (.tuple #[z,s]) w1∧∀ v,∃ w2,(Instr.entryStore t (.map (some b)) s v).run Tryz.prog w1=.ok () w2∧MapV kt w2 b (n + 1) (laidF f kl v)∧Tn (fun i=>i=b) w w2:=by
 obtain ⟨D,h1,h2,h3⟩:=id h
 obtain ⟨es,clock,hb,F,hs,hD⟩:=h1
 rcases K.find w hkey es.toList F.keys with ⟨g1,g2⟩ | ⟨j,e0,g1,g2,g3⟩
 ·refine ⟨.int .i64 (clock:Int),setBlock w b (.map (es.push ⟨key,z,clock⟩) (clock + 1)),?_,fun v=>?_⟩
  ·simp [Instr.mapEntry,run_underlying ht,MapKept.run_getObj_map hb,K.check w false hkey,g1,hz,MapKept.run_setObj_map _ hb,Result.andThen,setBlock,goInt]
  ·obtain ⟨w',hrun,hm,htn⟩:=h.store K ht hn v hkey hl
   rw [ha] at hm
   have hw:w'=setBlock w b (.map (es.push ⟨key,v,clock⟩) (clock + 1)):=by
    have:(Instr.mapUpdate t (.map (some b)) key v).run Tryz.prog w=.ok () (setBlock w b (.map (es.push ⟨key,v,clock⟩) (clock + 1))):=by
     simp [Instr.mapUpdate,run_underlying ht,MapKept.run_getObj_map hb,K.check w false hkey,g1,MapKept.run_setObj_map _ hb,Result.andThen,setBlock]
    rw [this] at hrun
    injection hrun with _ hrun
    exact hrun.symm
   have hb1:(setBlock w b (.map (es.push ⟨key,z,clock⟩) (clock + 1))).heap[b]?=some (.map (es.push ⟨key,z,clock⟩) (clock + 1)):=heap_setBlock_same hb _
   have hf:(es.push (⟨key,z,clock⟩ : MapEntry)).findIdx? (fun e=>(e.born:Int) == (clock:Int))=some es.size:=by
    have hno:es.toList.findIdx? (fun e=>(e.born:Int) == (clock:Int))=none:=List.findIdx?_eq_none_iff.2 fun x hx=>by
     have:=F.stamped.1 x hx
     simp;omega
    rw [show es.push (⟨key,z,clock⟩ : MapEntry)=(es.toList ++ [(⟨key,z,clock⟩ : MapEntry)]).toArray from Array.ext' (by rw [Array.toList_push]),List.findIdx?_toArray,List.findIdx?_append,hno]
    simp
   refine ⟨w',?_,hm,htn⟩
   rw [hw]
   have hi:(asInt (.int .i64 (clock:Int))).run Tryz.prog (setBlock w b (.map (es.push ⟨key,z,clock⟩) (clock + 1)))=.ok (clock:Int) (setBlock w b (.map (es.push ⟨key,z,clock⟩) (clock + 1))):=by simp [asInt,asIntOf]
   have hmod:(es.push (⟨key,z,clock⟩ : MapEntry)).modify es.size (fun e=>{ e with val:=v })=es.push ⟨key,v,clock⟩:=by
    apply Array.ext
    ·simp
    ·intro i h1 h2
     rw [Array.getElem_modify]
     by_cases hi:es.size=i
     ·subst hi;simp
     ·rw [if_neg hi]
      have hlt:i<es.size:=by simp at h1;omega
      rw [Array.getElem_push_lt hlt,Array.getElem_push_lt hlt]
   simp only [Instr.entryStore,Sem.run_bind,MapKept.run_getObj_map hb1,Result.andThen,hi,hf]
   rw [MapKept.run_setObj_map _ hb1,hmod]
   simp [setBlock]
 ·exfalso
  have hk:=h.look_ok K ht hz hkey hl
  rw [ha] at hk
  simp [Instr.lookup,run_underlying ht,MapKept.run_getObj_map hb,K.check w _ hkey,g1,Result.andThen] at hk
end
end Go.Proofs.YtlgdcelgkiipaaaGreat
