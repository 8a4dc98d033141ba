/-
  past.Past's Push where it is taken. Conditions: those of a past; the units of at most 2^47 bytes; the last length at most 2^60.
  The document's own Own, One and Same for operations; the law's end. Conditions: rows of units of at most 2^47 bytes where each says so.
-/
import Derived.Test.YtlgdcelgkiipaaaGreatOc15
set_option maxRecDepth 100000
set_option linter.unusedVariables false
namespace Go.Proofs.YtlgdcelgkiipaaaGreat
open Go.RowKit
open Pl (Un)
theorem build_op (t:Nat) (x y:Int) (A:Option Addr) (n c:Nat) (b:Bool) (a:Act) (w1:World) (o:Oper) (ho:o.op=Op.buildSlice 34 1 #[(0,Operand.tmp t)]) (e:a.tmps[t]?.getD undef=.agg #[.int .u32 x,.int .u64 y,.slice A n c,.bool b]) :
  (execOp a.eval o).run Tryz.prog w1=.ok (.value (.slice (some ⟨w1.heap.size,0,none⟩) 1 1)) (w1.alloc (.cells #[.int .u32 x,.int .u64 y,.slice A n c,.bool b] 45)):=by
 unfold execOp
 simp only [ho]
 simp [e,go_sem]
structure Ch (L:Nat→Bool):Prop where
 c12:L 12=true→L 9=true
 c9:L 9=true→L 8=true
 c8:L 8=true→L 4=true∧L 7=true
 c7:L 7=true→L 6=true
 c6:L 6=true→L 5=true
theorem Ch.no9 {L:Nat→Bool} (h:Ch L) (hL:L 9=false):L 12=false:=by
 cases e:L 12 with
 | false=>rfl
 | true=>rw [h.c12 e] at hL;cases hL
theorem Ch.no8 {L:Nat→Bool} (h:Ch L) (hL:L 8=false):L 12=false:=by
 refine h.no9 ?_
 cases e:L 9 with
 | false=>rfl
 | true=>rw [h.c9 e] at hL;cases hL
theorem Ch.no4 {L:Nat→Bool} (h:Ch L) (hL:L 4=false):L 12=false:=by
 refine h.no8 ?_
 cases e:L 8 with
 | false=>rfl
 | true=>rw [(h.c8 e).1] at hL;cases hL
theorem Ch.no6 {L:Nat→Bool} (h:Ch L) (hL:L 6=false):L 12=false:=by
 refine h.no8 ?_
 cases e:L 8 with
 | false=>rfl
 | true=>rw [h.c7 (h.c8 e).2] at hL;cases hL
theorem rq_up {L:Nat→Bool} {i j:Nat} (h:L j=true):Rq.up L i j=true:=by simp [Rq.up,h]
theorem rq_of {L:Nat→Bool} {i j:Nat} (h:Rq.up L i j=true):i=j∨L j=true:=by
 by_cases e:i=j
 ·exact Or.inl e
 ·simp [Rq.up,e] at h;exact Or.inr h
theorem Ch.up {L:Nat→Bool} {i:Nat} (h:Ch L) (h12:i=12→L 9=true) (h9:i=9→L 8=true) (h8:i=8→L 4=true∧L 7=true) (h7:i=7→L 6=true) (h6:i=6→L 5=true):Ch (Rq.up L i) :=
 ⟨fun e=>rq_up ((rq_of e).elim h12 h.c12),fun e=>rq_up ((rq_of e).elim h9 h.c9),fun e=>((rq_of e).elim h8 h.c8).imp rq_up rq_up,fun e=>rq_up ((rq_of e).elim h7 h.c7),fun e=>rq_up ((rq_of e).elim h6 h.c6)⟩
def PuB1 (B:Nat) (x y:Int) (l:List Un) (b:Bool) (v:Value) (w:World):Prop:=∃ g A' c',v=.slice (some ⟨g,0,none⟩) 1 1∧B≤g∧Rws encO w w.heap.size (some ⟨g,0,none⟩) 1 1 [⟨x,y,A',l.length,c',l,b⟩]∧OwnU w B (.slice A' l.length c') l
def PuG (B:Nat) (A0:Option Addr) (n0 c0:Nat) (x y:Int) (l:List Un) (b:Bool) (g2:Nat) (w:World):Prop:=B≤g2∧g2<w.heap.size∧∃ g A' c',w.heap[g2]?=some (.cells #[.slice A0 n0 c0,.slice (some ⟨g,0,none⟩) 1 1] 34 (0,0))∧B≤g∧Rws encO w w.heap.size (some ⟨g,0,none⟩) 1 1 [⟨x,y,A',l.length,c',l,b⟩]∧OwnU w B (.slice A' l.length c') l
def PuB2 (B:Nat) (A0:Option Addr) (n0 c0:Nat) (x y:Int) (l:List Un) (b:Bool) (v:Value) (w:World):Prop:=∃ g2,v=.slice (some ⟨g2,0,none⟩) 2 2∧PuG B A0 n0 c0 x y l b g2 w
def PuC (B:Nat) (L0:List OpV) (x y:Int) (l:List Un) (b:Bool) (v:Value) (w:World):Prop:=∃ A1 c1 A' c',v=.slice A1 (L0.length + 1) c1∧OwnR encO 4 45 w B (.slice A1 (L0.length + 1) c1) (L0 ++ [⟨x,y,A',l.length,c',l,b⟩])∧OwnU w B (.slice A' l.length c') l
section
variable {B:Nat} {A0:Option Addr} {n0 c0:Nat} {x y:Int} {l:List Un} {b:Bool} {v:Value} {w w':World} {p:Nat} {L0:List OpV}
theorem ownU_p {V:Value} (h:OwnU w B V l) (ht:Tn (fun b=>b=p) w w') (hp:p<B):OwnU w' B V l:=OwnR.tn h ht fun g hg e=>by have:=(OwnR.lt h g hg).1;omega
theorem rws_p {g:Nat} {M:List OpV} (h:Rws encO w w.heap.size (some ⟨g,0,none⟩) 1 1 M) (hg:B≤g) (ht:Tn (fun b=>b=p) w w') (hp:p<B):Rws encO w' w'.heap.size (some ⟨g,0,none⟩) 1 1 M:=Rws.tn h ht fun _ ad e e2=>by cases e;simp only at e2;omega
theorem PuB1.tn (h:PuB1 B x y l b v w) (ht:Tn (fun b=>b=p) w w') (hp:p<B):PuB1 B x y l b v w':=by
 obtain ⟨g,A',c',e,h0,h1,h2⟩:=h
 exact ⟨g,A',c',e,h0,rws_p h1 h0 ht hp,ownU_p h2 ht hp⟩
theorem PuG.tn {g2:Nat} (h:PuG B A0 n0 c0 x y l b g2 w) (ht:Tn (fun b=>b=p) w w') (hp:p<B):PuG B A0 n0 c0 x y l b g2 w':=by
 obtain ⟨hg0,hg1,g,A',c',hh,h0,h1,h2⟩:=h
 exact ⟨hg0,Nat.lt_of_lt_of_le hg1 ht.size,g,A',c',ht.old hh (fun e=>by omega),h0,rws_p h1 h0 ht hp,ownU_p h2 ht hp⟩
theorem PuB2.tn (h:PuB2 B A0 n0 c0 x y l b v w) (ht:Tn (fun b=>b=p) w w') (hp:p<B):PuB2 B A0 n0 c0 x y l b v w':=h.imp fun _ h=>⟨h.1,h.2.tn ht hp⟩
theorem PuC.tn (h:PuC B L0 x y l b v w) (ht:Tn (fun b=>b=p) w w') (hp:p<B):PuC B L0 x y l b v w':=by
 obtain ⟨A1,c1,A',c',e,h1,h2⟩:=h
 exact ⟨A1,c1,A',c',e,OwnR.tn h1 ht (fun g hg e=>by have:=(OwnR.lt h1 g hg).1;omega),ownU_p h2 ht hp⟩
theorem PuB1.new {A':Option Addr} {c':Nat} (ho:OwnU w B (.slice A' l.length c') l) (hB:B≤w.heap.size):PuB1 B x y l b (.slice (some ⟨w.heap.size,0,none⟩) 1 1) (w.alloc (.cells #[.int .u32 x,.int .u64 y,.slice A' l.length c',.bool b] 45)):=by
 refine ⟨_,A',c',rfl,hB,?_,OwnR.then_ ho (below_box _ _)⟩
 have:=lit_op w ⟨x,y,A',l.length,c',l,b⟩
 simpa using this
theorem PuB2.new {A':Option Addr} {c' g:Nat} (h:B≤g∧Rws encO w w.heap.size (some ⟨g,0,none⟩) 1 1 [⟨x,y,A',l.length,c',l,b⟩]∧OwnU w B (.slice A' l.length c') l) (hB:B≤w.heap.size):PuB2 B A0 n0 c0 x y l b (.slice (some ⟨w.heap.size,0,none⟩) 2 2) (w.alloc (.cells #[.slice A0 n0 c0,.slice (some ⟨g,0,none⟩) 1 1] 34)) :=
 ⟨_,rfl,hB,by simp,g,A',c',heap_new rfl,h.1,Rws.then_ h.2.1 (below_box _ _),OwnR.then_ h.2.2 (below_box _ _)⟩
theorem PuG.concat {F:Nat→Prop} {fr:Nat} {N:Int} {P:List Pl.Op} {C:Option Addr} {m d g2:Nat} (h:PuG B A0 n0 c0 x y l b g2 w) (hp:PastW w p F fr N P A0 n0 c0 C m d L0) (hc:P.length<256) (hB:B≤w.heap.size) :
  Calls Tryz.prog 209 #[.slice (some ⟨g2,0,none⟩) 2 2] w fun e w'=>∃ v,e=.returned v∧PuC B L0 x y l b v w'∧Below w.heap.size w w':=by
 obtain ⟨hg0,hg1,g,A',c',hh,h0,h1,h2⟩:=h
 have hL:=hp.len_L
 have hP:PartsR encO w g2 [⟨A0,n0,c0,L0⟩,⟨some ⟨g,0,none⟩,1,1,[⟨x,y,A',l.length,c',l,b⟩]⟩]:=⟨hg1,fun j hj=>by
  rcases j with _ | _ | j
  ·exact ⟨cell0 (r:=[.slice (some ⟨g,0,none⟩) 1 1]) hh,hp.ops.1⟩
  ·exact ⟨cell1 (r:=[]) hh,h1⟩
  ·simp at hj;omega⟩
 have hu:uptoR [⟨A0,n0,c0,L0⟩,⟨some ⟨g,0,none⟩,1,1,[⟨x,y,A',l.length,c',l,b⟩]⟩] 2=L0 ++ [⟨x,y,A',l.length,c',l,b⟩]:=by simp [uptoR]
 have:=concatO_any w g2 2 _ hP (by simp) (by
  show (uptoR _ 2).length≤_
  rw [hu];simp;omega)
 have h3:Calls Tryz.prog 209 #[.slice (some ⟨g2,0,none⟩) 2 2] w (RetR encO 4 45 w (L0 ++ [⟨x,y,A',l.length,c',l,b⟩])):=by rw [← hu];exact this
 refine h3.mono ?_
 rintro e w3 ⟨A1,c1,rfl,ho,hb⟩
 rw [List.length_append,List.length_singleton] at ho
 exact ⟨_,rfl,⟨A1,c1,A',c',by rw [List.length_append,List.length_singleton],OwnR.lower ho hB,OwnR.then_ h2 hb⟩,hb⟩
end
structure PuS (w0:World) (s p:Nat) (F:Nat→Prop) (fr:Nat) (N:Int) (P:List Pl.Op) (A0:Option Addr) (n0 c0:Nat) (C:Option Addr) (m d:Nat) (L0:List OpV) (x y:Int) (A:Option Addr) (n c:Nat) (l:List Un) (b:Bool) (L:Nat→Bool) (w:World):Prop where
 src:OAt w s x y A n c b
 uns:L 12=false→Uns w w.heap.size A n c l
 pre:L 12=false→PastW w p F fr N P A0 n0 c0 C m d L0
 post:L 12=true→∃ A1 c1 A' c',w.heap[p]?=some (.cells #[.int .u64 (fr:Int),.slice A1 (L0.length + 1) c1,.slice C m d] 166 (0,0))∧OwnR encO 4 45 w w0.heap.size (.slice A1 (L0.length + 1) c1) (L0 ++ [⟨x,y,A',l.length,c',l,b⟩])∧OwnU w w0.heap.size (.slice A' l.length c') l
 tn:Tn (fun b=>b=p) w0 w
 ch:Ch L
 sp:s≠p
def PuR (p:Nat) (_:Nat) (w w':World):Prop:=Tn (fun b=>b=p) w w'
section
variable {w0 w w':World} {s p:Nat} {F:Nat→Prop} {fr:Nat} {N:Int} {P:List Pl.Op} {A0:Option Addr} {n0 c0:Nat} {C:Option Addr} {m d:Nat} {L0:List OpV} {x y:Int} {A:Option Addr} {n c:Nat} {l:List Un} {b:Bool} {L:Nat→Bool} {i:Nat}
theorem PuS.next (h:PuS w0 s p F fr N P A0 n0 c0 C m d L0 x y A n c l b L w) (hi:i≠12) (hc:(i=12→L 9=true)∧(i=9→L 8=true)∧(i=8→L 4=true∧L 7=true)∧(i=7→L 6=true)∧(i=6→L 5=true)) (hb:Below w.heap.size w w'):PuS w0 s p F fr N P A0 n0 c0 C m d L0 x y A n c l b (Rq.up L i) w':=by
 have e:Rq.up L i 12=L 12:=by simp [Rq.up,hi]
 refine ⟨h.src.then_ hb,?_,?_,?_,h.tn.trans (Tn.of (fun b=>b=p) hb) (fun _ _ z=>z),h.ch.up hc.1 hc.2.1 hc.2.2.1 hc.2.2.2.1 hc.2.2.2.2,h.sp⟩
 ·rw [e];exact fun hL=>Rws.then_ (h.uns hL) hb
 ·rw [e];exact fun hL=>(h.pre hL).then_ hb
 ·rw [e]
  intro hL
  obtain ⟨A1,c1,A',c',h1,h2,h3⟩:=h.post hL
  exact ⟨A1,c1,A',c',below_old hb h1 (lt_of_block h1),OwnR.then_ h2 hb,OwnR.then_ h3 hb⟩
theorem PuS.stay (h:PuS w0 s p F fr N P A0 n0 c0 C m d L0 x y A n c l b L w) (hi:i≠12) (hj:i<6∨9<i):PuS w0 s p F fr N P A0 n0 c0 C m d L0 x y A n c l b (Rq.up L i) w :=
 h.next hi ⟨fun e=>by omega,fun e=>by omega,fun e=>by omega,fun e=>by omega,fun e=>by omega⟩ (Below.refl _ _)
theorem PuS.laid {A1 A':Option Addr} {c1 c':Nat} (h:PuS w0 s p F fr N P A0 n0 c0 C m d L0 x y A n c l b L w) (hL:L 12=false) (h9:L 9=true) (h1:OwnR encO 4 45 w w0.heap.size (.slice A1 (L0.length + 1) c1) (L0 ++ [⟨x,y,A',l.length,c',l,b⟩])) (h2:OwnU w w0.heap.size (.slice A' l.length c') l) (hp:p<w0.heap.size) :
  PuS w0 s p F fr N P A0 n0 c0 C m d L0 x y A n c l b (Rq.up L 12) (w.setCell ⟨p,1,none⟩ (.slice A1 (L0.length + 1) c1)):=by
 have ht:Tn (fun b=>b=p) w (w.setCell ⟨p,1,none⟩ (.slice A1 (L0.length + 1) c1)):=(Tn.refl (fun b=>b=p) w).set_ (p:=⟨p,1,none⟩) (Or.inr rfl) _
 refine ⟨h.src.tn ht h.sp,(fun e=>by simp [Rq.up] at e),(fun e=>by simp [Rq.up] at e),fun _=>⟨A1,c1,A',c',blk_set (i:=1) (h.pre hL).blk _,OwnR.tn h1 ht (fun g hg e=>by have:=(OwnR.lt h1 g hg).1;omega),ownU_p h2 ht hp⟩,h.tn.trans ht (fun _ _ z=>z),h.ch.up (fun _=>h9) (fun e=>by simp at e) (fun e=>by simp at e) (fun e=>by simp at e) (fun e=>by simp at e),h.sp⟩
end
theorem PastW.pushed {V w5 w8:World} {p:Nat} {F:Nat→Prop} {fr:Nat} {N:Int} {P:List Pl.Op} {A0 A1 C A' A3:Option Addr} {n0 c0 m d c1 c' c3 B1:Nat} {L0:List OpV} {x y ra:Int} {l:List Un} {b:Bool} {l':List Int} (h:PastW V p F fr N P A0 n0 c0 C m d L0) (hF:∀ b,V.heap.size≤b→F b) (hB1:V.heap.size≤B1)
  (hr:fr + P.length<1099511627776) (hc:P.length<256) (hn:l.length * 40≤140737488355328) (hra:ra=N + Pl.total (P ++ [⟨x,y,l,b⟩])) (hl':l'=Pl.lens N P ++ [ra]) (t5:Tn (fun b=>b=p) V w5)
  (hb5:w5.heap[p]?=some (.cells #[.int .u64 (fr:Int),.slice A1 (L0.length + 1) c1,.slice C m d] 166 (0,0))) (ho1:OwnR encO 4 45 w5 B1 (.slice A1 (L0.length + 1) c1) (L0 ++ [⟨x,y,A',l.length,c',l,b⟩])) (hu1:OwnU w5 B1 (.slice A' l.length c') l)
  (hb:Below w5.heap.size w5 w8) (ho3:OwnR encI 1 3 w8 w5.heap.size (.slice A3 l'.length c3) l') :
  PastAt (w8.setCell ⟨p,2,none⟩ (.slice A3 l'.length c3)) p F fr N (P ++ [⟨x,y,l,b⟩])∧Tn (fun b=>b=p) V (w8.setCell ⟨p,2,none⟩ (.slice A3 l'.length c3)):=by
 have hpl:=h.lt
 have t8:Tn (fun b=>b=p) w5 w8:=Tn.of _ hb
 have t9:Tn (fun b=>b=p) w8 (w8.setCell ⟨p,2,none⟩ (.slice A3 l'.length c3)):=(Tn.refl (fun b=>b=p) w8).set_ (p:=⟨p,2,none⟩) (Or.inr rfl) _
 have t59:=t8.trans t9 (fun _ _ z=>z)
 have t09:=t5.trans t59 (fun _ _ z=>z)
 have s5:=t5.size
 have b8:=below_old hb hb5 (lt_of_block hb5)
 have o1:=OwnR.tn ho1 t59 (fun g hg e=>by have:=(OwnR.lt ho1 g hg).1;omega)
 have u1:=ownU_p hu1 t59 (show p<B1 by omega)
 have o3:=OwnR.tn ho3 t9 (fun g hg e=>by have:=(OwnR.lt ho3 g hg).1;omega)
 have e3:l'=Pl.lens N (P ++ [⟨x,y,l,b⟩]):=by rw [hl',Pl.lens_snoc,hra]
 have hl3:=(OwnR.rws encO_len o1)
 refine ⟨⟨A1,L0.length + 1,c1,A3,l'.length,c3,L0 ++ [⟨x,y,A',l.length,c',l,b⟩],blk_set (i:=2) b8 _,⟨hl3.2,fun _ ad e=>?_,fun o ho=>?_⟩,by rw [List.map_append,h.eq];rfl,?_,fun _ ad e=>?_,h.no,⟨?_,?_,h.fine.small.snoc hn⟩⟩,t09⟩
 ·subst e
  exact hF _ (by have:=(OwnR.lt ho1 _ rfl).1;omega)
 ·rcases List.mem_append.1 ho with ho | ho
  ·exact (h.ops.2.2 o ho).tn t09 fun b hb e=>h.no (by rw [← e];exact hb)
  ·rw [List.mem_singleton.1 ho]
   refine ⟨OwnU.uns u1,fun _ ad e=>?_⟩
   simp only at e
   subst e
   exact hF _ (by have:=(OwnR.lt hu1 _ rfl).1;omega)
 ·rw [← e3]
  exact (OwnR.rws encI_len o3).2
 ·subst e
  exact hF _ (by have:=(OwnR.lt ho3 _ rfl).1;omega)
 ·rw [List.length_append,List.length_singleton];omega
 ·rw [List.length_append,List.length_singleton];omega
theorem lens_parts (w:World) (C:Option Addr) (m d:Nat) (ns:List Int) (ra:Int) (h:Rws encI w w.heap.size C m d ns) :
  PartsR encI ((w.alloc (.cells #[.int .i64 ra] 3)).alloc (.cells #[.slice C m d,.slice (some ⟨w.heap.size,0,none⟩) 1 1] 164)) (w.heap.size + 1) [⟨C,m,d,ns⟩,⟨some ⟨w.heap.size,0,none⟩,1,1,[ra]⟩]:=by
 have hl:Rws encI (w.alloc (.cells #[.int .i64 ra] 3)) (w.alloc (.cells #[.int .i64 ra] 3)).heap.size (some ⟨w.heap.size,0,none⟩) 1 1 [ra]:=(OwnR.rws encI_len (litI w [ra] (by simp [maxLen]))).2
 have hb:=below_box (w.alloc (.cells #[.int .i64 ra] 3)) (.cells #[.slice C m d,.slice (some ⟨w.heap.size,0,none⟩) 1 1] 164)
 have hh:((w.alloc (.cells #[.int .i64 ra] 3)).alloc (.cells #[.slice C m d,.slice (some ⟨w.heap.size,0,none⟩) 1 1] 164)).heap[w.heap.size + 1]?=some (.cells #[.slice C m d,.slice (some ⟨w.heap.size,0,none⟩) 1 1] 164 (0,0)):=heap_new (by simp)
 refine ⟨by simp,fun j hj=>?_⟩
 rcases j with _ | _ | j
 ·exact ⟨cell0 (r:=[.slice (some ⟨w.heap.size,0,none⟩) 1 1]) hh,Rws.then_ (Rws.then_ h (below_box _ _)) hb⟩
 ·exact ⟨cell1 (r:=[]) hh,Rws.then_ hl hb⟩
 ·simp at hj;omega
variable {w:World} {p:Nat} {F:Nat→Prop} {fr:Nat} {N:Int} {P:List Pl.Op}
set_option maxHeartbeats 400000 in
theorem push_ok (h:PastAt w p F fr N P) (hF:∀ b,w.heap.size≤b→F b) (x y:Int) (A:Option Addr) (n c:Nat) (l:List Un) (b:Bool) (h1:Uns w w.heap.size A n c l) (hn:n * 40≤140737488355328) (hN:N + Pl.total P≤1152921504606846976) (ra:Int) (hl:Pl.longL l (N + Pl.total P)=(ra,0)) (hr:fr + P.length<1099511627776) (hc:P.length<256) :
  Calls Tryz.prog 155 #[.pointer (some ⟨p,0,none⟩),.agg #[.int .u32 x,.int .u64 y,.slice A n c,.bool b]] w fun e w'=>e=.returned (.tuple #[.int .u64 ((fr + (P.length + 1):Nat):Int),.int .i64 0])∧PastAt w' p F fr N (P ++ [⟨x,y,l,b⟩])∧Tn (fun b=>b=p) w w':=by
 obtain ⟨nx,hnx⟩ : ∃ nx,nx=fr + (P.length + 1):=⟨_,rfl⟩
 rw [← hnx]
 have HNX:=Lib.hid hnx
 clear hnx
 obtain ⟨gB,oB,m,d,k,N1,hH⟩:=PuH.make h x y A n c l b h1 hn hN ra 0 hl
 obtain ⟨V,hV⟩ : ∃ V,V=w.alloc (.cells #[.int .u32 x,.int .u64 y,.slice A n c,.bool b] 45):=⟨_,rfl⟩
 rw [← hV] at hH
 have hlt:=h.lt
 obtain ⟨A0,n0,c0,L0,hPW⟩:=hH.pw
 obtain ⟨rb,hrb⟩ : ∃ rb:Int,rb=0:=⟨_,rfl⟩
 rw [← hrb] at hH
 have HPW:=Lib.hid hPW
 have HPA:=Lib.hid hH.pa
 have HOA:=Lib.hid hH.oa
 have HN:=Lib.hid (none_past hH.pa)
 have HK:=Lib.hid hH.kk
 have HCN:=Lib.hid hH.cn
 have HLO:=Lib.hid hH.lo
 have HUN:=Lib.hid hH.un
 have HBV:=Lib.hid hH.bel
 have HRB:=Lib.hid hrb
 have zk0:(0:Int)≤(k:Int):=Int.natCast_nonneg _
 have zk1:(k:Int)<(m:Int):=Int.ofNat_lt.2 hH.km
 have HV:=Lib.hid hV
 have HPL:=Lib.hid hlt
 have HNB:=Lib.hid hn
 have HC0:=Lib.hid hc
 have HR0:=Lib.hid hr
 have HF:=Lib.hid hF
 have HRA:=Lib.hid (show ra=N + Pl.total (P ++ [⟨x,y,l,b⟩]) by
  have:=(Pl.longL_ok (l:=l) (n:=N + Pl.total P) (by rw [hl])).1
  rw [hl] at this
  rw [Pl.total_append,Pl.total_one]
  simp only at this ⊢
  omega)
 clear h h1 hn hN hl hH hPW hV hrb hlt hc hr hF
 go_enter Tryz.func155,Tryz.ntmps155
 go_wp2_with fail
 rw [← HV.out]
 refine HN.out.mono ?_
 rintro e w' ⟨rfl,hw⟩
 rw [hw]
 clear hw
 go_wp2_with fail
 refine Rg.wp_region_inv (Below V.heap.size V) (Rg.Wd.at [.is (.pointer (some ⟨w.heap.size,2,none⟩)),.is (.slice A n c),.is (.pointer (some ⟨p,0,none⟩)),.is (.pointer (some ⟨p,0,none⟩)),.is (.pointer (some ⟨p,2,none⟩)),.is (.slice (some ⟨gB,oB,none⟩) m d),.is (.pointer (some ⟨p,0,none⟩)),.is (.int .i64 (k:Int)),.is (.pointer (some ⟨gB,oB + k,none⟩)),.is (.int .i64 N1),.is (.tuple #[.int .i64 ra,.int .i64 rb]),.is (.tuple #[.int .i64 ra,.int .i64 rb]),.is (.int .i64 ra),.is (.int .i64 rb),.is (.int .i64 ra),.is (.int .i64 rb)]) (by kernel_rfl) (by kernel_rfl) (Rg.Wd.stays _ _) ((below_drawn (Below.refl _ _))) ⟨?_,?_,?_,?_,?_,?_,?_,?_,?_,?_,?_,?_,?_,?_,?_,?_,trivial⟩ ?_
 ·intro a w1 hS hb hd
  have e3:=hb 3 (Rg.nw (by decide))
  simp [Act.eval] at e3
  exact Rg.does_pure (Rg.wanted_none rfl) (by simp [execOp,e3,go_sem]) hS rfl
 ·intro a w1 hS hb hd
  have e11:=hd ⟨0,.data⟩ (by simp) rfl _ _ rfl rfl
  have e11:a.tmps[11]?.getD undef=(.pointer (some ⟨w.heap.size,2,none⟩)):=Rg.slot e11
  exact Rg.does_pure (Rg.wanted_none rfl) (by simp [execOp,e11,(HOA.out.then_ hS).cells.2.2.1,go_sem]) hS rfl
 ·intro a w1 hS hb hd
  have e0:=hb 0 (Rg.nw (by decide))
  simp [Act.eval] at e0
  exact Rg.does_pure (Rg.wanted_none rfl) (by simp [execOp,e0,go_sem]) hS rfl
 ·intro a w1 hS hb hd
  have e13:=hd ⟨2,.data⟩ (by simp) rfl _ _ rfl rfl
  have e13:a.tmps[13]?.getD undef=(.pointer (some ⟨p,0,none⟩)):=Rg.slot e13
  exact Rg.does_pure (Rg.wanted_none rfl) (by simp [execOp,e13,go_sem]) hS rfl
 ·intro a w1 hS hb hd
  have e14:=hd ⟨3,.data⟩ (by simp) rfl _ _ rfl rfl
  have e14:a.tmps[14]?.getD undef=(.pointer (some ⟨p,0,none⟩)):=Rg.slot e14
  exact Rg.does_pure (Rg.wanted_none rfl) (by simp [execOp,e14,go_sem]) hS rfl
 ·intro a w1 hS hb hd
  have e15:=hd ⟨4,.data⟩ (by simp) rfl _ _ rfl rfl
  have e15:a.tmps[15]?.getD undef=(.pointer (some ⟨p,2,none⟩)):=Rg.slot e15
  exact Rg.does_pure (Rg.wanted_none rfl) (by simp [execOp,e15,(HPW.out.then_ hS).cells.2.2,go_sem]) hS rfl
 ·intro a w1 hS hb hd
  have e0:=hb 0 (Rg.nw (by decide))
  simp [Act.eval] at e0
  exact Rg.does_pure (Rg.wanted_none rfl) (by simp [execOp,e0,go_sem]) hS rfl
 ·intro a w1 hS hb hd
  have e17:=hd ⟨6,.data⟩ (by simp) rfl _ _ rfl rfl
  have e17:a.tmps[17]?.getD undef=(.pointer (some ⟨p,0,none⟩)):=Rg.slot e17
  refine Rg.does_call (f:=154) (args:=#[.pointer (some ⟨p,0,none⟩)]) (Rg.wanted_none rfl) (by simp [e17,go_sem]) ?_
  refine (len_past (HPA.out.then_ hS)).mono ?_;rintro e w3 ⟨rfl,rfl⟩;exact ⟨_,rfl,by rw [HK.out];rfl,hS,Below.refl _ _⟩
 ·intro a w1 hS hb hd
  have e16:=hd ⟨5,.data⟩ (by simp) rfl _ _ rfl rfl
  have e16:a.tmps[16]?.getD undef=(.slice (some ⟨gB,oB,none⟩) m d):=Rg.slot e16
  have e18:=hd ⟨7,.data⟩ (by simp) rfl _ _ rfl rfl
  have e18:a.tmps[18]?.getD undef=(.int .i64 (k:Int)):=Rg.slot e18
  exact Rg.does_pure (Rg.wanted_none rfl) (by simp [execOp,e16,e18,zk0,zk1,go_sem]) hS rfl
 ·intro a w1 hS hb hd
  have e19:=hd ⟨8,.data⟩ (by simp) rfl _ _ rfl rfl
  have e19:a.tmps[19]?.getD undef=(.pointer (some ⟨gB,oB + k,none⟩)):=Rg.slot e19
  exact Rg.does_pure (Rg.wanted_none rfl) (by simp [execOp,e19,(HCN.out w1 hS),go_sem]) hS rfl
 ·intro a w1 hS hb hd
  have e12:=hd ⟨1,.data⟩ (by simp) rfl _ _ rfl rfl
  have e12:a.tmps[12]?.getD undef=(.slice A n c):=Rg.slot e12
  have e20:=hd ⟨9,.data⟩ (by simp) rfl _ _ rfl rfl
  have e20:a.tmps[20]?.getD undef=(.int .i64 N1):=Rg.slot e20
  refine Rg.does_call (f:=74) (args:=#[.slice A n c,.int .i64 N1]) (Rg.wanted_none rfl) (by simp [e12,e20,go_sem]) ?_
  refine (HLO.out w1 hS).mono ?_;rintro e w3 ⟨rfl,hb⟩;exact ⟨_,rfl,rfl,below_then hS hb,hb⟩
 ·intro a w1 hS hb hd
  have e21:=hd ⟨10,.data⟩ (by simp) rfl _ _ rfl rfl
  have e21:a.tmps[21]?.getD undef=(.tuple #[.int .i64 ra,.int .i64 rb]):=Rg.slot e21
  exact Rg.does_pure (Rg.wanted_none rfl) (by simp [execOp,e21,go_sem]) hS rfl
 ·intro a w1 hS hb hd
  have e10:=hd ⟨11,.data⟩ (by simp) rfl _ _ rfl rfl
  have e10:a.tmps[10]?.getD undef=(.tuple #[.int .i64 ra,.int .i64 rb]):=Rg.slot e10
  exact Rg.does_pure (Rg.wanted_none rfl) (by simp [execOp,e10,go_sem]) hS rfl
 ·intro a w1 hS hb hd
  have e10:=hd ⟨11,.data⟩ (by simp) rfl _ _ rfl rfl
  have e10:a.tmps[10]?.getD undef=(.tuple #[.int .i64 ra,.int .i64 rb]):=Rg.slot e10
  exact Rg.does_pure (Rg.wanted_none rfl) (by simp [execOp,e10,go_sem]) hS rfl
 ·intro a w1 hS hb hd
  have e22:=hd ⟨12,.data⟩ (by simp) rfl _ _ rfl rfl
  have e22:a.tmps[22]?.getD undef=(.int .i64 ra):=Rg.slot e22
  exact Rg.does_pure (Rg.wanted_none rfl) (by simp [execOp,e22,go_sem]) hS rfl
 ·intro a w1 hS hb hd
  have e23:=hd ⟨13,.data⟩ (by simp) rfl _ _ rfl rfl
  have e23:a.tmps[23]?.getD undef=(.int .i64 rb):=Rg.slot e23
  exact Rg.does_pure (Rg.wanted_none rfl) (by simp [execOp,e23,go_sem]) hS rfl
 ·intro v w3 hS hv
  have v6:=hv 14 _ _ rfl rfl
  have v7:=hv 15 _ _ rfl rfl
  have HB:=Lib.hid (below_then HBV.out hS)
  have HB3:=Lib.hid hS
  have HNW:=Lib.hid (now_past (HPA.out.then_ hS))
  have HLE:=Lib.hid (len_past (HPA.out.then_ hS))
  rw [← HK.out] at HNW HLE
  clear hS hv
  simp only [Rg.putAll,Nat.zero_add,Nat.reduceAdd]
  simp only [Act.put,List.setIfInBounds_toArray,List.set_cons_succ,List.set_cons_zero]
  rw [v6,v7,HRB.out]
  obtain ⟨nw,hnw⟩ : ∃ nw,nw=fr + k:=⟨_,rfl⟩
  rw [← hnw] at HNW
  have hr0:=HR0.out
  have hc0:=HC0.out
  rw [← HK.out,← hnw] at hr0
  rw [← HK.out] at hc0
  have z1:((nw:Int) == 1099511627776)=false:=by simp;omega
  have z2:((k:Int) == 256)=false:=by simp;omega
  clear hnw hr0 hc0
  go_wp2_with fail
  refine HNW.out.mono ?_
  rintro e w' ⟨rfl,hw⟩
  rw [hw]
  clear hw
  go_wp2_with fail
  refine HLE.out.mono ?_
  rintro e w' ⟨rfl,hw⟩
  rw [hw]
  clear hw
  go_wp2_with fail
  have HS0:=Lib.hid (show PuS w3 w.heap.size p F fr N P A0 n0 c0 (some ⟨gB,oB,none⟩) m d L0 x y A n c l b (fun _=>false) w3.drew from by
   have hb:=below_drawn HB3.out
   exact ⟨HOA.out.then_ hb,fun _=>Rws.then_ HUN.out hb,fun _=>HPW.out.then_ hb,(fun e=>by cases e),(Tn.refl _ _).drew,⟨(fun e=>by cases e),(fun e=>by cases e),(fun e=>by cases e),(fun e=>by cases e),(fun e=>by cases e)⟩,by have:=HPL.out;omega⟩)
  have HLT:=Lib.hid (show p<w3.heap.size from Nat.lt_of_lt_of_le HPL.out HB.out.size)
  clear z1 z2 v6 v7 HNW HLE
  refine Rq.wp_region_inv (PuS w3 w.heap.size p F fr N P A0 n0 c0 (some ⟨gB,oB,none⟩) m d L0 x y A n c l b) (PuR p) (Rq.Wd.at [.is (.pointer (some ⟨p,0,none⟩)),.is (.pointer (some ⟨p,0,none⟩)),.is (.pointer (some ⟨p,0,none⟩)),.is (.pointer (some ⟨p,1,none⟩)),.is (.slice A0 n0 c0),.is (.agg #[.int .u32 x,.int .u64 y,.slice A n c,.bool b]),.pred (OwQ w3.heap.size x y l b),.pred (PuB1 w3.heap.size x y l b),.pred (PuB2 w3.heap.size A0 n0 c0 x y l b),.pred (PuC w3.heap.size L0 x y l b),.is (.pointer (some ⟨p,0,none⟩)),.is (.pointer (some ⟨p,1,none⟩)),.any]) (by kernel_rfl) (by kernel_rfl) (Rq.Wd.stays _ _ (fun i q hi=>(by rcases i with _ | _ | _ | _ | _ | _ | _ | _ | _ | _ | _ | _ | _ | i <;> simp at hi <;> (subst hi;first | exact fun k v w1 w2 _ h hr=>OwQ.tn h hr HLT.out | exact fun k v w1 w2 _ h hr=>PuB1.tn h hr HLT.out | exact fun k v w1 w2 _ h hr=>PuB2.tn h hr HLT.out | exact fun k v w1 w2 _ h hr=>PuC.tn h hr HLT.out)))) (HS0.out) ⟨?_,?_,?_,?_,?_,?_,?_,?_,?_,?_,?_,?_,?_,trivial⟩ ?_
  ·intro L a w1 hL hS hb hd
   have e0:=hb 0 (Rq.nw (by decide))
   simp [Act.eval] at e0
   exact Rq.does_pure (Rq.wanted_none rfl) (by simp [execOp,e0,go_sem]) rfl (hS.stay (by decide) (by decide)) (Tn.refl _ _)
  ·intro L a w1 hL hS hb hd
   have e0:=hb 0 (Rq.nw (by decide))
   simp [Act.eval] at e0
   exact Rq.does_pure (Rq.wanted_none rfl) (by simp [execOp,e0,go_sem]) rfl (hS.stay (by decide) (by decide)) (Tn.refl _ _)
  ·intro L a w1 hL hS hb hd
   have p38:=(hd ⟨1,.data⟩ (by simp) rfl).2 _ _ rfl rfl
   have e38:a.tmps[38]?.getD undef=(.pointer (some ⟨p,0,none⟩)):=Rq.slot p38
   exact Rq.does_pure (Rq.wanted_none rfl) (by simp [execOp,e38,go_sem]) rfl (hS.stay (by decide) (by decide)) (Tn.refl _ _)
  ·intro L a w1 hL hS hb hd
   have p39:=(hd ⟨2,.data⟩ (by simp) rfl).2 _ _ rfl rfl
   have e39:a.tmps[39]?.getD undef=(.pointer (some ⟨p,0,none⟩)):=Rq.slot p39
   exact Rq.does_pure (Rq.wanted_none rfl) (by simp [execOp,e39,go_sem]) rfl (hS.stay (by decide) (by decide)) (Tn.refl _ _)
  ·intro L a w1 hL hS hb hd
   have p40:=(hd ⟨3,.data⟩ (by simp) rfl).2 _ _ rfl rfl
   have e40:a.tmps[40]?.getD undef=(.pointer (some ⟨p,1,none⟩)):=Rq.slot p40
   exact Rq.does_pure (Rq.wanted_none rfl) (by simp [execOp,e40,(hS.pre (hS.ch.no4 hL)).cells.2.1,go_sem]) rfl (hS.stay (by decide) (by decide)) (Tn.refl _ _)
  ·intro L a w1 hL hS hb hd
   have e3:=hb 3 (Rq.nw (by decide))
   simp [Act.eval] at e3
   exact Rq.does_pure (Rq.wanted_none rfl) (by simp [execOp,e3,hS.src.cells.1,hS.src.cells.2.1,hS.src.cells.2.2.1,hS.src.cells.2.2.2,go_sem]) rfl (hS.stay (by decide) (by decide)) (Tn.refl _ _)
  ·intro L a w1 hL hS hb hd
   have p42:=(hd ⟨5,.data⟩ (by simp) rfl).2 _ _ rfl rfl
   have e42:a.tmps[42]?.getD undef=(.agg #[.int .u32 x,.int .u64 y,.slice A n c,.bool b]):=Rq.slot p42
   refine Rq.does_call (f:=185) (args:=#[.agg #[.int .u32 x,.int .u64 y,.slice A n c,.bool b]]) (Rq.wanted_none rfl) (by simp [e42,go_sem]) ?_
   refine (ownOp_any x y A n c l b w1 (hS.uns (hS.ch.no6 hL)) HNB.out).mono ?_;rintro e w3 ⟨A',c',rfl,ho,hb⟩;exact ⟨_,rfl,⟨A',c',rfl,OwnR.lower ho hS.tn.size⟩,hS.next (by decide) ⟨fun e=>by simp at e,fun e=>by simp at e,fun e=>by simp at e,fun e=>by simp at e,fun _=>(hd ⟨5,.data⟩ (by simp) rfl).1⟩ hb,Tn.of _ hb⟩
  ·intro L a w1 hL hS hb hd
   have p43:=(hd ⟨6,.data⟩ (by simp) rfl).2 _ _ rfl rfl
   obtain ⟨A',c',e7,ho⟩:=p43;have e8:=Rq.slot e7;have hb:=below_box w1 (.cells #[.int .u32 x,.int .u64 y,.slice A' l.length c',.bool b] 45);exact Rq.does_run (Rq.wanted_none rfl) (build_op 43 x y A' l.length c' b a w1 _ rfl e8) (PuB1.new ho hS.tn.size) (hS.next (by decide) ⟨fun e=>by simp at e,fun e=>by simp at e,fun e=>by simp at e,fun _=>(hd ⟨6,.data⟩ (by simp) rfl).1,fun e=>by simp at e⟩ hb) (Tn.of _ hb)
  ·intro L a w1 hL hS hb hd
   have p41:=(hd ⟨4,.data⟩ (by simp) rfl).2 _ _ rfl rfl
   have e41:a.tmps[41]?.getD undef=(.slice A0 n0 c0):=Rq.slot p41
   have p44:=(hd ⟨7,.data⟩ (by simp) rfl).2 _ _ rfl rfl
   obtain ⟨g,A',c',e7,hg⟩:=p44;have e8:=Rq.slot e7;have hb:=below_box w1 (.cells #[.slice A0 n0 c0,.slice (some ⟨g,0,none⟩) 1 1] 34);exact Rq.does_run (Rq.wanted_none rfl) (by simp [execOp,e41,e8,go_sem]) (PuB2.new hg hS.tn.size) (hS.next (by decide) ⟨fun e=>by simp at e,fun e=>by simp at e,fun _=>⟨(hd ⟨4,.data⟩ (by simp) rfl).1,(hd ⟨7,.data⟩ (by simp) rfl).1⟩,fun e=>by simp at e,fun e=>by simp at e⟩ hb) (Tn.of _ hb)
  ·intro L a w1 hL hS hb hd
   have p45:=(hd ⟨8,.data⟩ (by simp) rfl).2 _ _ rfl rfl
   obtain ⟨g2,e7,hg2⟩:=p45;have e8:=Rq.slot e7;refine Rq.does_call (f:=209) (args:=#[.slice (some ⟨g2,0,none⟩) 2 2]) (Rq.wanted_none rfl) (by simp [e8,go_sem]) ?_;refine (hg2.concat (hS.pre (hS.ch.no9 hL)) HC0.out hS.tn.size).mono ?_;rintro e w3 ⟨v3,rfl,hc3,hb⟩;exact ⟨_,rfl,hc3,hS.next (by decide) ⟨fun e=>by simp at e,fun _=>(hd ⟨8,.data⟩ (by simp) rfl).1,fun e=>by simp at e,fun e=>by simp at e,fun e=>by simp at e⟩ hb,Tn.of _ hb⟩
  ·intro L a w1 hL hS hb hd
   have p37:=(hd ⟨0,.data⟩ (by simp) rfl).2 _ _ rfl rfl
   have e37:a.tmps[37]?.getD undef=(.pointer (some ⟨p,0,none⟩)):=Rq.slot p37
   exact Rq.does_pure (Rq.wanted_none rfl) (by simp [execOp,e37,go_sem]) rfl (hS.stay (by decide) (by decide)) (Tn.refl _ _)
  ·intro L a w1 hL hS hb hd
   have p47:=(hd ⟨10,.data⟩ (by simp) rfl).2 _ _ rfl rfl
   have e47:a.tmps[47]?.getD undef=(.pointer (some ⟨p,0,none⟩)):=Rq.slot p47
   exact Rq.does_pure (Rq.wanted_none rfl) (by simp [execOp,e47,go_sem]) rfl (hS.stay (by decide) (by decide)) (Tn.refl _ _)
  ·intro L a w1 hL hS hb hd
   have p48:=(hd ⟨11,.data⟩ (by simp) rfl).2 _ _ rfl rfl
   have e48:a.tmps[48]?.getD undef=(.pointer (some ⟨p,1,none⟩)):=Rq.slot p48
   have p46:=(hd ⟨9,.data⟩ (by simp) rfl).2 _ _ rfl rfl
   obtain ⟨A1,c1,A',c',e7,h1,h2⟩:=p46;have e8:=Rq.slot e7;have hP:=hS.pre hL;have d1:=hP.cells.2.1;have f2:=fun j=>hP.frozen j;exact Rq.does_skip rfl (Rq.wanted_none rfl) (by simp [execOp,e48,e8,go_sem,d1,f2]) trivial (hS.laid hL (hd ⟨9,.data⟩ (by simp) rfl).1 h1 h2 HLT.out) ((Tn.refl (fun b=>b=p) w1).set_ (p:=⟨p,1,none⟩) (Or.inr rfl) _)
  ·intro L v w5 hS hall hv
   obtain ⟨A1,c1,A',c',hb5,ho1,hu1⟩:=hS.post (hall 12 (by decide))
   have t5:Tn (fun b=>b=p) V w5:=(Tn.of (fun b=>b=p) HB3.out).trans hS.tn (fun _ _ z=>z)
   have k0:=cell0 (r:=[.slice A1 (L0.length + 1) c1,.slice (some ⟨gB,oB,none⟩) m d]) hb5
   have k1:=cell1 (r:=[.slice (some ⟨gB,oB,none⟩) m d]) hb5
   have k2:=cell2 (r:=[]) hb5
   have hml:=HPW.out.m_len
   obtain ⟨l',hl'⟩ : ∃ l',l'=Pl.lens N P ++ [ra]:=⟨_,rfl⟩
   have hcat:Calls Tryz.prog 210 #[.slice (some ⟨w5.heap.size + 1,0,none⟩) 2 2] ((w5.alloc (.cells #[.int .i64 ra] 3)).alloc (.cells #[.slice (some ⟨gB,oB,none⟩) m d,.slice (some ⟨w5.heap.size,0,none⟩) 1 1] 164)) (RetR encI 1 3 ((w5.alloc (.cells #[.int .i64 ra] 3)).alloc (.cells #[.slice (some ⟨gB,oB,none⟩) m d,.slice (some ⟨w5.heap.size,0,none⟩) 1 1] 164)) l'):=by
    have hu:uptoR [⟨some ⟨gB,oB,none⟩,m,d,Pl.lens N P⟩,⟨some ⟨w5.heap.size,0,none⟩,1,1,[ra]⟩] 2=l':=by rw [hl'];simp [uptoR]
    have:=concatI_any _ (w5.heap.size + 1) 2 _ (lens_parts w5 (some ⟨gB,oB,none⟩) m d (Pl.lens N P) ra (Rws.tn HPW.out.len t5 (HPW.out.inB.apart fun b hb e=>HPW.out.no (by rw [← e];exact hb)))) (by simp) (by
     show (uptoR _ 2).length≤_
     rw [hu,hl',List.length_append,Pl.len_lens]
     have:=HC0.out
     simp
     omega)
    rw [← hu];exact this
   have HCAT:=Lib.hid hcat
   have HB5:=Lib.hid hb5
   have HO1:=Lib.hid ho1
   have HU1:=Lib.hid hu1
   have HT5:=Lib.hid t5
   have HLL:=Lib.hid hl'
   have HSZ:=Lib.hid (show V.heap.size≤w3.heap.size from HB3.out.size)
   have hb7:Below w5.heap.size w5 ((w5.alloc (.cells #[.int .i64 ra] 3)).alloc (.cells #[.slice (some ⟨gB,oB,none⟩) m d,.slice (some ⟨w5.heap.size,0,none⟩) 1 1] 164)):=below_alloc (below_box _ _) _
   have HB7:=Lib.hid hb7
   have HUL:=Lib.hid HUN.out.len
   clear hS hall hv hb5 ho1 hu1 t5 hml hl' hcat hb7
   simp only [Rq.putAll,Nat.zero_add,Nat.reduceAdd]
   simp only [Act.put,List.setIfInBounds_toArray,List.set_cons_succ,List.set_cons_zero]
   go_wp2_with fail
   refine HCAT.out.mono ?_
   rintro e w8 ⟨A3,c3,rfl,ho3,hb3⟩
   have hb8:=HB7.out.trans (hb3.mono HB7.out.size)
   have HFIN:=Lib.hid (HPW.out.pushed (fun b hb=>HF.out b (Nat.le_trans HBV.out.size hb)) HSZ.out HR0.out HC0.out (by rw [HUL.out];exact HNB.out) HRA.out HLL.out HT5.out HB5.out HO1.out HU1.out hb8 (OwnR.lower ho3 HB7.out.size))
   have b8:=below_old hb8 HB5.out (lt_of_block HB5.out)
   have j2:=cell2 (r:=[]) b8
   have jf:=fun j=>frozen_of_row w8 p j _ _ b8
   obtain ⟨W9,hW9⟩ : ∃ W9,W9=w8.setCell ⟨p,2,none⟩ (.slice A3 l'.length c3):=⟨_,rfl⟩
   rw [← hW9] at HFIN
   have HNW:=Lib.hid (now_past HFIN.out.1)
   rw [List.length_append,List.length_singleton] at HNW
   have HW9:=Lib.hid hW9
   rw [← HNX.out] at HNW
   clear ho3 hb3 hb8 b8 k0 k1 k2 hW9
   go_wp2_with fail
   rw [← HW9.out]
   refine HNW.out.mono ?_
   rintro e w10 ⟨rfl,hw⟩
   rw [hw]
   clear hw
   go_wp2_with fail
   go_returns
   exact ⟨rfl,HFIN.out.1,(Tn.of (fun b=>b=p) HBV.out).trans HFIN.out.2 (fun _ _ z=>z)⟩
open Go.RowKit
open Pl (Un)
def RowP (w:World) (A:Option Addr) (n c:Nat) (P:List Pl.Op):Prop:=∃ L,OpsF w (fun _=>True) A n c L∧L.map OpV.op=P
theorem RowP.then_ {w w':World} {A:Option Addr} {n c:Nat} {P:List Pl.Op} (h:RowP w A n c P) (hb:Below w.heap.size w w'):RowP w' A n c P:=h.imp fun _ h=>⟨h.1.then_ hb,h.2⟩
theorem RowP.len {w:World} {A:Option Addr} {n c:Nat} {P:List Pl.Op} (h:RowP w A n c P):P.length=n:=by
 obtain ⟨L,h1,h2⟩:=h
 rw [← h2,List.length_map,h1.1.len]
theorem RowP.at_ {w:World} {A:Option Addr} {n c i:Nat} {P:List Pl.Op} (h:RowP w A n c P) (hi:i<n) :
  ∃ g o A2 n2 c2,A=some ⟨g,o,none⟩∧(∀ w',Below w.heap.size w w'→w'.cell? ⟨g,o + i * 4,none⟩=some (.int .u32 (P.getD i default).x)∧w'.cell? ⟨g,o + i * 4 + 1,none⟩=some (.int .u64 (P.getD i default).y)∧w'.cell? ⟨g,o + i * 4 + 2,none⟩=some (.slice A2 n2 c2)∧w'.cell? ⟨g,o + i * 4 + 3,none⟩=some (.bool (P.getD i default).b))∧Uns w w.heap.size A2 n2 c2 (P.getD i default).l:=by
 obtain ⟨L,h1,h2⟩:=h
 obtain ⟨g,o,e,_,_,_⟩:=h1.at_ hi
 have hop:(L.getD i default).op=P.getD i default:=by
  rw [← h2,List.getD_eq_getElem?_getD,List.getD_eq_getElem?_getD,List.getElem?_map,List.getElem?_eq_getElem (by rw [h1.1.len];exact hi)]
  rfl
 refine ⟨g,o,(L.getD i default).A,(L.getD i default).n,(L.getD i default).c,e,fun w' hb=>?_,?_⟩
 ·obtain ⟨g',o',e',_,_,hc⟩:=(h1.then_ hb).at_ hi
  rw [e] at e'
  cases e'
  rw [← hop]
  exact hc i hi
 ·rw [← hop]
  exact (h1.getD_ hi).1
end Go.Proofs.YtlgdcelgkiipaaaGreat
