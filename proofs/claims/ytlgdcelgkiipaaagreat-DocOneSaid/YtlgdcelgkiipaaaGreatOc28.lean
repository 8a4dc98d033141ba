/-
  Contracts of piece: part, for any closure whose own contract is known; New. Conditions: the buffers have at most 2^30 code points; the places asked for are at most 2^30.
  Contract of piece.New: a table of its own, of one piece with all of the text. Condition: the text has at most 2^30 code points.
  'append' as a law at one step of a region that draws: onto code points, onto structs, of the call's own. No conditions but those that each states.
-/
import Derived.Test.YtlgdcelgkiipaaaGreatOc27
import Derived.Test.YtlgdcelgkiipaaaGreatOc00
import Derived.Deep.RegionLaw
set_option maxRecDepth 100000
set_option linter.unusedVariables false
namespace Go.Proofs.YtlgdcelgkiipaaaGreat.Tbl
open Go.RowKit
open Tp (Pc Plc Tab)
theorem max_run (x y z:Int) (h:z=max x y):∀ (w':World) (ts:Array TypeId) (t:TypeId),(Builtin.max_ ts t #[.int .i64 x,.int .i64 y]).run Tryz.prog w'=.ok (.int .i64 z) w':=by
 intro w' ts t
 rw [run_max_int2]
 subst h
 congr 2
 split <;> omega
theorem min_run (x y z:Int) (h:z=min x y):∀ (w':World) (ts:Array TypeId) (t:TypeId),(Builtin.min_ ts t #[.int .i64 x,.int .i64 y]).run Tryz.prog w'=.ok (.int .i64 z) w':=by
 intro w' ts t
 rw [run_min_int2]
 subst h
 congr 2
 split <;> omega
theorem clip_append:∀ (a b:List Pc) (f u:Int),Tp.clip f u (a ++ b)=Tp.clip f u a ++ Tp.clip (f - (Tp.total a:Int)) (u - (Tp.total a:Int)) b
 | [],b,f,u=>by simp [Tp.clip,Tp.total]
 | p :: a,b,f,u=>by
  rw [List.cons_append,Tp.clip,Tp.clip,clip_append a b,List.append_assoc]
  have e:(Tp.total (p :: a):Int)=(p.len:Int) + (Tp.total a:Int):=by simp [Tp.total]
  rw [e,Int.sub_sub,Int.sub_sub]
def PRel (G0:Nat→Prop) (w:World) (ps acc:List Pc) (f0 u0:Int) (J:(Nat→Prop)→List Pc→World→Prop) (f u i:Value) (wr:World):Prop :=
 ∃ (j:Nat) (G:Nat→Prop),i=.int .i64 (j:Int)∧j≤ps.length∧f=.int .i64 (f0 - (Tp.total (ps.take j):Int))∧u=.int .i64 (u0 - (Tp.total (ps.take j):Int))∧J G (acc ++ Tp.clip f0 u0 (ps.take j)) wr∧Tn G0 w wr∧∀ b,G b→G0 b∨w.heap.size≤b
def Keeps (base:Nat) (J:(Nat→Prop)→List Pc→World→Prop):Prop:=(∀ G acc w1 w2,J G acc w1→Below w1.heap.size w1 w2→J G acc w2)∧∀ G acc w1,J G acc w1→∀ b,G b→base≤b∧b<w1.heap.size
def Left (J:(Nat→Prop)→List Pc→World→Prop) (G:Nat→Prop) (acc:List Pc) (w1:World) (e:Ending) (w2:World):Prop:=e=.returned (.tuple #[])∧Tn G w1 w2∧∃ G',J G' acc w2∧∀ b,G' b→G b∨w1.heap.size≤b
set_option maxHeartbeats 1000000 in
theorem part_any {w:World} {F:Nat→Prop} {p:Nat} {t:Tab} {m:Nat} (h:Tb w F p t m) (f0 u0:Int) (hf0:0≤f0∧f0≤1073741824) (hu0:0≤u0∧u0≤1073741824) (f:FuncId) (caps:Array Value) (base:Nat) (J:(Nat→Prop)→List Pc→World→Prop) (G0:Nat→Prop) (acc:List Pc)
  (hf:∀ args w,(callFunc f args).run Tryz.prog w=.ok (.enter f args) w) (hF:∀ b,F b→b<base) (hbase:base≤w.heap.size)
  (hJ:J G0 acc w) (hJr:Keeps base J)
  (hH:∀ G acc2 x w1,J G (acc ++ acc2) w1→Below base w w1→1≤x.len→x.at_ + x.len≤(t.buf x.s).length→(∃ r,Tp.clip f0 u0 (Tp.group t.L)=(acc2 ++ [x]) ++ r)→Calls Tryz.prog f (#[aggP x] ++ caps) w1 (Left J G (acc ++ (acc2 ++ [x])) w1)) :
  Calls Tryz.prog 225 #[.pointer (some ⟨p,0,none⟩),.int .i64 f0,.int .i64 u0,.func (.func f) #[] caps] w (Left J G0 (acc ++ Tp.clip f0 u0 (Tp.group t.L)) w):=by
 have hok:=h.ok
 have hm:=h.le
 have hlt:=h.lt
 obtain ⟨_,_,_,hp,A1,c1,q,A2,c2,A3,c3,h1,h2,h3,h4,h5,h6,h7,h8,h9,h10⟩:=h
 have d3:=cell3 h1
 have hT:=Tp.total_group t.L
 have hps:=Tp.group_len t.L
 have hlen:=hok.len
 obtain ⟨ps,hps0⟩ : ∃ ps,ps=Tp.group t.L:=⟨_,rfl⟩
 have HPC:=Lib.hid (fun (f u:Int) (x:Pc) (hx:x ∈ Tp.clip f u (Tp.group t.L))=>hok.pc_clip (f:=f) (u:=u) hx)
 rw [← hps0] at d3 h5 hT hps hH HPC h10 ⊢
 have HT:=Lib.hid hT
 have HR:=Lib.hid (OwnR.rws encP_len h5).2
 have HA3:=Lib.hid (show ∀ g,A3=some g→g.block<base from fun g hg=>by subst hg;exact hF _ (h10 g.block rfl).1)
 have HJ:=Lib.hid (And.intro hJ hJr)
 have HH:=Lib.hid hH
 have HPS:=Lib.hid hps0
 have hpsl:ps.length≤1073741824:=by omega
 have hL:t.L.length≤1073741824:=by omega
 have HBUF:=Lib.hid (show ∀ s,(t.buf s).length≤1073741824 from fun s=>by have:=hok.2.2;unfold Tab.buf;split <;> omega)
 clear h1 h2 h3 h4 h5 h6 h7 h8 h9 h10 hok hlt hp hps hlen hJ hJr hH hF hT hps0
 go_enter Tryz.func225,Tryz.ntmps225
 go_wp2_with fail
 go_loopw [1,2,17] (fun f u i wr=>PRel G0 w ps acc f0 u0 J f u i wr) (fun _ _ i _=>ps.length - (intOf i).toNat)
 case atStart=>exact ⟨0,G0,rfl,Nat.zero_le _,by simp [Tp.total],by simp [Tp.total],by simpa [Tp.clip] using HJ.out.1,Tn.refl _ _,fun b h=>Or.inl h⟩
 case round =>
  obtain ⟨j,G,rfl,hj,rfl,rfl,hJ,htn,hGG⟩:=hrel
  have hb:=htn.new hbase (fun b hb=>(HJ.out.2.2 G0 acc w HJ.out.1 b hb).1)
  have HB:=Lib.hid (And.intro htn hGG)
  have HJ1:=Lib.hid hJ
  by_cases hlt:j<ps.length
  ·obtain ⟨g,o,e3,hg,hc0⟩:=Pcs.at_ (Rws.more HR.out (B':=w.heap.size) (Nat.le_refl _)) hlt
   have hgb:g<base:=HA3.out ⟨g,o,none⟩ e3
   subst e3
   obtain ⟨x0,x1,x2⟩:=hc0 j hlt
   have k0:=(hb.cell (p:=⟨g,_,none⟩) hgb).trans x0
   have k1:=(hb.cell (p:=⟨g,_,none⟩) hgb).trans x1
   have k2:=(hb.cell (p:=⟨g,_,none⟩) hgb).trans x2
   have hs:=Tp.total_take ps j hlt
   have hs2:=Tp.total_take_le ps (j + 1)
   rw [HT.out] at hs2
   have hcl:=Tp.clip_take ps j hlt f0 u0
   have hmem:ps.getD j default ∈ ps:=by rw [List.getD_eq_getElem?_getD,List.getElem?_eq_getElem hlt];exact List.getElem_mem _
   have hcl2:∀ x ∈ Tp.clip1 (f0 - (Tp.total (ps.take j):Int)) (u0 - (Tp.total (ps.take j):Int)) (ps.getD j default),x ∈ Tp.clip f0 u0 ps:=fun x hx=>by
    have h1:ps=ps.take (j + 1) ++ ps.drop (j + 1):=(List.take_append_drop _ _).symm
    have hca:∀ (a b:List Pc) (f u:Int),∀ x ∈ Tp.clip f u a,x ∈ Tp.clip f u (a ++ b):=fun a=>by
     induction a with
     | nil=>intro b f u x hx;cases hx
     | cons y a ih =>
      intro b f u x hx
      rcases List.mem_append.1 hx with hx | hx
      ·exact List.mem_append_left _ hx
      ·exact List.mem_append_right _ (ih b _ _ x hx)
    rw [h1]
    exact hca _ _ _ _ x (by rw [hcl];exact List.mem_append_right _ hx)
   have HCLN:=Lib.hid (show ∃ r,Tp.clip f0 u0 ps=(Tp.clip f0 u0 (ps.take j) ++ Tp.clip1 (f0 - (Tp.total (ps.take j):Int)) (u0 - (Tp.total (ps.take j):Int)) (ps.getD j default)) ++ r from
    ⟨_,by rw [← hcl,← clip_append,List.take_append_drop]⟩)
   obtain ⟨⟨s,a,l⟩,ha⟩ : ∃ x,x=ps.getD j default:=⟨_,rfl⟩
   obtain ⟨y,hy⟩ : ∃ y,y=Tp.total (ps.take j):=⟨_,rfl⟩
   obtain ⟨y2,hy2⟩ : ∃ y2,y2=Tp.total (ps.take (j + 1)):=⟨_,rfl⟩
   obtain ⟨C,hC⟩ : ∃ C,C=Tp.clip f0 u0 (ps.take j):=⟨_,rfl⟩
   obtain ⟨C2,hC2⟩ : ∃ C2,C2=Tp.clip f0 u0 (ps.take (j + 1)):=⟨_,rfl⟩
   rw [← ha] at k0 k1 k2 hs hcl hcl2 HCLN
   rw [← hy] at hs hcl hcl2 HCLN
   rw [← hy2] at hs hs2
   rw [← hC] at hcl HJ1 HCLN
   rw [← hC2] at hcl
   rw [← hy]
   simp only at k0 k1 k2 hs
   have hbd:y + l≤1073741824:=by omega
   obtain ⟨fj,hfj⟩ : ∃ z:Int,z=f0 - (y:Int):=⟨_,rfl⟩
   obtain ⟨uj,huj⟩ : ∃ z:Int,z=u0 - (y:Int):=⟨_,rfl⟩
   have hfb:-1073741824≤fj∧fj≤1073741824:=by omega
   have hub:-1073741824≤uj∧uj≤1073741824:=by omega
   have hf2:fj - (l:Int)=f0 - (y2:Int):=by omega
   have hu2:uj - (l:Int)=u0 - (y2:Int):=by omega
   rw [← hfj,← huj] at hcl hcl2 HCLN
   rw [← hfj,← huj]
   obtain ⟨mx,hmx⟩ : ∃ z:Int,z=max fj 0:=⟨_,rfl⟩
   obtain ⟨mn,hmn⟩ : ∃ z:Int,z=min uj (l:Int):=⟨_,rfl⟩
   have rmx:=max_run fj 0 mx hmx
   have rmn:=min_run uj (l:Int) mn hmn
   have hmb:0≤mx∧mx≤1073741824:=by omega
   have hnb:-1073741824≤mn∧mn≤(l:Int):=by omega
   obtain ⟨W,hW⟩ : ∃ W,W=wr.alloc (.cells #[.bool s,.int .i64 (a:Int),.int .i64 (l:Int)] 183):=⟨_,rfl⟩
   have hbW:Below wr.heap.size wr W:=by rw [hW];exact (Below.refl _ _).alloc (Nat.le_refl _) _
   have hq1:W.heap[wr.heap.size]?=some (.cells #[.bool s,.int .i64 (a:Int),.int .i64 (l:Int)] 183 (0,0)):=by rw [hW,heap_alloc_new]
   have HQ:=Lib.hid hq1
   have HJW:=Lib.hid (HJ.out.2.1 G (acc ++ C) wr W.drew HJ1.out (hbW.drew))
   have HBW:=Lib.hid (hb.trans (hbW.mono (by have:=hb.size;omega))).drew
   have HEQ:=Lib.hid (And.intro hC2 (And.intro hy2 (And.intro hf2 hu2)))
   have HW:=Lib.hid hW
   have HBW2:=Lib.hid hbW
   clear hs2 hC hC2 hy hy2 hf2 hu2 hfj huj hc0 x0 x1 x2 hmem ha hs hW hq1 hbW hb hJ htn hGG
   by_cases hlt2:mx<mn
   ·have hmx':mx=max fj 0:=hmx
    have e1:Tp.clip1 fj uj ⟨s,a,l⟩=[⟨s,a + mx.toNat,(mn - mx).toNat⟩]:=by
     unfold Tp.clip1
     simp only
     rw [← hmx,← hmn,if_pos hlt2]
    rw [e1] at hcl hcl2 HCLN
    have hpc:=HPC.out f0 u0 ⟨s,a + mx.toNat,(mn - mx).toNat⟩ (hcl2 _ (by simp))
    have hag:aggP ⟨s,a + mx.toNat,(mn - mx).toNat⟩=.agg #[.bool s,.int .i64 ((a:Int) + mx),.int .i64 (mn - mx)]:=by
     unfold aggP
     simp only
     rw [Int.natCast_add,Int.toNat_of_nonneg hmb.1,Int.toNat_of_nonneg (by omega)]
    have HC:=Lib.hid (HH.out G C ⟨s,a + mx.toNat,(mn - mx).toNat⟩ W.drew HJW.out HBW.out (by simp only;omega) hpc HCLN.out)
    rw [hag] at HC
    have hal:(a:Int) + mx≤1073741824:=by
     have h1:a + mx.toNat + (mn - mx).toNat≤(t.buf s).length:=hpc
     have h2:=HBUF.out s
     omega
    have g2:=cell2 HQ.out
    have g0:=cell0 HQ.out
    have g1:=cell1 HQ.out
    have hcl':=hcl
    have HCL:=Lib.hid hcl
    clear hcl hcl' hcl2 hpc hag e1 hmx' hmx hmn
    go_wp2_with fail
    rw [← HW.out]
    go_region
    go_wp2_with fail
    refine HC.out.mono ?_
    rintro e w3 ⟨rfl,htn3,G3,hJ3,hG3⟩
    have htn3':Tn G W w3:=htn3.drawn
    have zW:W.heap.size=wr.heap.size + 1:=by rw [HW.out];simp
    have hnG:¬ G wr.heap.size:=fun h=>by have:=(HJ.out.2.2 _ _ _ HJ1.out _ h).2;omega
    have hq3:=htn3'.old HQ.out hnG
    have g3:=cell2 hq3
    have HN:=Lib.hid (show J G3 (acc ++ C2) w3∧Tn G0 w w3∧∀ b,G3 b→G0 b∨w.heap.size≤b by
     obtain ⟨ht,hGG⟩:=HB.out
     have z1:=ht.size
     refine ⟨by rw [HCL.out];exact hJ3,(ht.trans (Tn.of G HBW2.out) (fun b h1 h2=>(hGG b h2).elim id (fun h=>by omega))).trans htn3' (fun b h1 h2=>(hGG b h2).elim id (fun h=>by omega)),fun b hb=>?_⟩
     rcases hG3 b hb with h | h
     ·exact hGG b h
     ·have h2:W.heap.size≤b:=h
      omega)
    clear hJ3 hG3 htn3 htn3' hnG hq3 g0 g1 g2 HC
    go_wp2_with fail
    go_region
    go_wp2_with fail
    go_roundw
    case rel =>
     obtain ⟨hC2,hy2,hf2,hu2⟩:=HEQ.out
     obtain ⟨h1,h2,h3⟩:=HN.out
     rw [hf2,hu2,hy2]
     exact ⟨j + 1,G3,by go_num,by omega,rfl,rfl,by rw [← hC2];exact HJ.out.2.1 _ _ _ _ h1 (Below.refl _ _).drew,h2.drew,h3⟩
    case measure=>simp [intOf];omega
   ·have e1:Tp.clip1 fj uj ⟨s,a,l⟩=[]:=by
     unfold Tp.clip1
     simp only
     rw [← hmx,← hmn,if_neg hlt2]
    rw [e1,List.append_nil] at hcl
    have HCL:=Lib.hid hcl
    have g2:=cell2 HQ.out
    clear hcl hcl2 e1 hmx hmn
    go_wp2_with fail
    rw [← HW.out]
    go_region
    go_wp2_with fail
    go_region
    go_wp2_with fail
    go_roundw
    case rel =>
     obtain ⟨hC2,hy2,hf2,hu2⟩:=HEQ.out
     obtain ⟨ht,hGG⟩:=HB.out
     rw [hf2,hu2,hy2]
     exact ⟨j + 1,G,by go_num,by omega,rfl,rfl,by rw [← hC2,HCL.out];exact HJ.out.2.1 _ _ _ _ HJW.out (Below.refl _ _).drew,((ht.trans (Tn.of G0 HBW2.out) (fun b h1 h2=>h2)).drew).drew,hGG⟩
    case measure=>simp [intOf];omega
  ·have hjn:j=ps.length:=by omega
   have HX:=Lib.hid (show J G (acc ++ Tp.clip f0 u0 ps) wr by rw [hjn,List.take_length] at hJ;exact hJ)
   clear hjn hJ htn hGG hb
   go_wp2_with fail
   refine ⟨rfl,_,results_none (by kernel_rfl) _ _ _,rfl,HB.out.1,G,HX.out,HB.out.2⟩
open Go.RowKit
open Tp (Pc Plc Tab)
def Made (w:World) (t:Tab) (m:Nat) (e:Ending) (w':World):Prop:=∃ p F,e=.returned (.pointer (some ⟨p,0,none⟩))∧Tb w' F p t m∧(∀ b,F b→w.heap.size≤b)∧Below w.heap.size w w'
theorem fresh_nil {cs:List Int} (h:cs.length=0):Tp.group (Tp.fresh cs).L=[]:=by
 unfold Tp.fresh
 simp only
 rw [h];rfl
theorem fresh_one {cs:List Int} (h:0<cs.length):Tp.group (Tp.fresh cs).L=[⟨false,0,cs.length⟩]:=Tp.group_one h
section
variable {w w1:World} {A1:Option Addr} {c1:Nat} {cs:List Int}
def newBuf (w1:World):World:=w1.alloc (.cells #[.slice none 0 0] 178)
def newTab (w1:World) (A1:Option Addr) (n c1:Nat):World:=(newBuf w1).alloc (.cells #[.slice A1 n c1,.pointer (some ⟨w1.heap.size,0,none⟩),.int .i64 0,.slice none 0 0] 181)
theorem newTab_size (n:Nat):(newTab w1 A1 n c1).heap.size=w1.heap.size + 2:=by simp [newTab,newBuf]
theorem newTab_below (hb:Below w.heap.size w w1) (n:Nat):Below w.heap.size w (newTab w1 A1 n c1):=by
 unfold newTab newBuf
 exact below_alloc (below_alloc hb _) _
theorem newTab_q (n:Nat):(newTab w1 A1 n c1).heap[w1.heap.size]?=some (.cells #[.slice none 0 0] 178 (0,0)):=by
 unfold newTab
 rw [Below.heap_alloc _ _ _ (by simp [newBuf])]
 exact heap_alloc_new w1 _
theorem newTab_p (n:Nat):(newTab w1 A1 n c1).heap[w1.heap.size + 1]?=some (.cells #[.slice A1 n c1,.pointer (some ⟨w1.heap.size,0,none⟩),.int .i64 0,.slice none 0 0] 181 (0,0)):=by
 unfold newTab
 exact heap_new (by simp [newBuf])
theorem newTab_own (n:Nat) (hO:OwnC w1 w.heap.size (.slice A1 cs.length c1) cs):OwnC (newTab w1 A1 n c1) w.heap.size (.slice A1 cs.length c1) cs:=(hO.alloc _).alloc _
theorem new_none (h0:cs.length=0) (hb:Below w.heap.size w w1) (hO:OwnC w1 w.heap.size (.slice A1 cs.length c1) cs) :
  Made w (Tp.fresh cs) cs.length (.returned (.pointer (some ⟨w1.heap.size + 1,0,none⟩))) (newTab w1 A1 cs.length c1):=by
 have z:=hb.size
 have hO':=newTab_own cs.length hO
 have hlt:=hO.lt
 refine ⟨w1.heap.size + 1,fun b=>w.heap.size≤b∧b<w1.heap.size + 2,rfl,⟨fun b hb=>?_,Tp.fresh_ok cs,by omega,⟨by omega,by omega⟩,A1,c1,w1.heap.size,none,0,none,0,?_,newTab_q _,hO'.lower (Nat.zero_le _),OwnC.nil_ _ _,?_,⟨z,by omega⟩,by omega,fun g hg=>?_,(fun g hg=>by cases hg),(fun g hg=>by cases hg)⟩,fun b hb=>hb.1,newTab_below hb _⟩
 ·rw [newTab_size];exact hb.2
 ·rw [fresh_nil h0];exact newTab_p _
 ·rw [fresh_nil h0];exact OwnR.nil_ _ _ _ _ _
 ·have:=hlt g hg
  exact ⟨⟨this.1,by omega⟩,by omega,by omega,fun e=>by cases e⟩
theorem new_some (h0:0<cs.length) (hm:cs.length≤1073741824) (hb:Below w.heap.size w w1) (hO:OwnC w1 w.heap.size (.slice A1 cs.length c1) cs) :
  Made w (Tp.fresh cs) cs.length (.returned (.pointer (some ⟨w1.heap.size + 1,0,none⟩)))
   (((newBuf w1).alloc (.cells #[.slice A1 cs.length c1,.pointer (some ⟨w1.heap.size,0,none⟩),.int .i64 0,.slice (some ⟨w1.heap.size + 1 + 1,0,none⟩) 1 1] 181)).alloc (.cells #[.bool false,.int .i64 0,.int .i64 (cs.length:Int)] 183)):=by
 have z:=hb.size
 have hlt:=hO.lt
 obtain ⟨W,hW⟩ : ∃ W,W=(newBuf w1).alloc (.cells #[.slice A1 cs.length c1,.pointer (some ⟨w1.heap.size,0,none⟩),.int .i64 0,.slice (some ⟨w1.heap.size + 1 + 1,0,none⟩) 1 1] 181):=⟨_,rfl⟩
 have zW:W.heap.size=w1.heap.size + 2:=by rw [hW];simp [newBuf]
 have pW:W.heap[w1.heap.size + 1]?=some (.cells #[.slice A1 cs.length c1,.pointer (some ⟨w1.heap.size,0,none⟩),.int .i64 0,.slice (some ⟨w1.heap.size + 1 + 1,0,none⟩) 1 1] 181 (0,0)):=by rw [hW];exact heap_new (by simp [newBuf])
 have qW:W.heap[w1.heap.size]?=some (.cells #[.slice none 0 0] 178 (0,0)):=by
  rw [hW,Below.heap_alloc _ _ _ (by simp [newBuf])]
  exact heap_alloc_new w1 _
 have bW:Below w.heap.size w W:=by rw [hW];unfold newBuf;exact below_alloc (below_alloc hb _) _
 have oW:OwnC W w.heap.size (.slice A1 cs.length c1) cs:=by rw [hW];exact (hO.alloc _).alloc _
 rw [← hW]
 have rV:OwnR encP 3 183 (W.alloc (.cells #[.bool false,.int .i64 0,.int .i64 (cs.length:Int)] 183)) W.heap.size (.slice (some ⟨w1.heap.size + 1 + 1,0,none⟩) 1 1) [⟨false,0,cs.length⟩]:=by
  have:=OwnR.lit (e:=183) encP_len W [⟨false,0,cs.length⟩] (by simp [maxLen])
  rw [show w1.heap.size + 1 + 1=W.heap.size by omega]
  simpa [cellsR,encP] using this
 obtain ⟨V,hV⟩ : ∃ V,V=W.alloc (.cells #[.bool false,.int .i64 0,.int .i64 (cs.length:Int)] 183):=⟨_,rfl⟩
 have zV:V.heap.size=w1.heap.size + 3:=by rw [hV];simp;omega
 have pV:V.heap[w1.heap.size + 1]?=_:=hV ▸ (Below.heap_alloc W _ _ (by omega)).trans pW
 have qV:V.heap[w1.heap.size]?=_:=hV ▸ (Below.heap_alloc W _ _ (by omega)).trans qW
 have oV:OwnC V w.heap.size (.slice A1 cs.length c1) cs:=hV ▸ oW.alloc _
 have bV:Below w.heap.size w V:=hV ▸ below_alloc bW _
 rw [← hV] at rV
 rw [← hV]
 refine ⟨w1.heap.size + 1,fun b=>w.heap.size≤b∧b<w1.heap.size + 3,rfl,⟨fun b hb=>?_,Tp.fresh_ok cs,hm,⟨by omega,by omega⟩,A1,c1,w1.heap.size,none,0,some ⟨w1.heap.size + 1 + 1,0,none⟩,1,?_,qV,oV.lower (Nat.zero_le _),OwnC.nil_ _ _,?_,⟨z,by omega⟩,by omega,fun g hg=>?_,(fun g hg=>by cases hg),fun g hg=>?_⟩,fun b hb=>hb.1,bV⟩
 ·rw [zV];exact hb.2
 ·rw [fresh_one h0];exact pV
 ·rw [fresh_one h0];exact OwnR.lower rV (Nat.zero_le _)
 ·have:=hlt g hg
  exact ⟨⟨this.1,by omega⟩,by omega,by omega,fun e=>by cases e⟩
 ·have e:g=w1.heap.size + 2:=by cases hg;rfl
  subst e
  exact ⟨⟨by omega,by omega⟩,by omega,by omega,fun e=>by cases e⟩
end
set_option maxHeartbeats 400000 in
theorem new_any (A:Option Addr) (n c:Nat) (cs:List Int) (w:World) (h:Crs w w.heap.size A n c cs) (hn:n≤1073741824) :
  Calls Tryz.prog 44 #[.slice A n c] w (Made w (Tp.fresh cs) n):=by
 have hl:=h.len
 have HC:=Lib.hid (cloneC_any A n c cs w h (by omega))
 have HM:=Lib.hid (fun w1 A1 c1=>And.intro (new_none (w:=w) (w1:=w1) (A1:=A1) (c1:=c1) (cs:=cs)) (new_some (w:=w) (w1:=w1) (A1:=A1) (c1:=c1) (cs:=cs)))
 rw [hl] at HM
 unfold RetC at HC
 rw [hl] at HC
 clear h hl
 go_enter Tryz.func44,Tryz.ntmps44
 go_wp2_with fail
 refine HC.out.mono ?_
 rintro e w1 ⟨A1,c1,rfl,hO,hb⟩
 have HO:=Lib.hid hO
 have HB:=Lib.hid hb
 obtain ⟨W,hW⟩ : ∃ W,W=newTab w1 A1 n c1:=⟨_,rfl⟩
 have f1:=frozen_of_row W (w1.heap.size + 1) 3 _ _ (hW ▸ newTab_p n)
 have q1:=cell3 (w:=W) (hW ▸ newTab_p n)
 have HW:=Lib.hid hW
 clear hO hb HC hW
 by_cases h0:n=0
 ·subst h0
  go_wp2_with fail
  go_ret
  exact (HM.out w1 A1 c1).1 (by trivial) HB.out HO.out
 ·have hn0:(0:Int)<(n:Int):=by omega
  go_wp2_with fail
  go_ret
  exact (HM.out w1 A1 c1).2 (by omega) hn HB.out HO.out
open Go.RowKit
theorem run_append_crs2 (w:World) (ty:TypeId) (base:Nat) (A:Option Addr) (n c:Nat) (cs:List Int) (hown:OwnC w base (.slice A n c) cs)
  (B:Nat) (A':Option Addr) (m c':Nat) (ds:List Int) (hsrc:Crs w B A' m c' ds) (hfit:(n + m) * 4≤140737488355328) (hbase:base≤w.heap.size) :
  ∃ A2 c2 w',(Builtin.append_ #[33,33] ty #[.slice A n c,.slice A' m c']).run Tryz.prog w=.ok (.slice A2 (n + m) c2) w'∧OwnC w' base (.slice A2 (n + m) c2) (cs ++ ds)∧w.grownBy w' (Value.ownBlock (.slice A n c)) ∧
   (Value.ownBlock (.slice A2 (n + m) c2)=Value.ownBlock (.slice A n c)∨Value.ownBlock (.slice A2 (n + m) c2)=some w.heap.size):=by
 obtain ⟨i0,hi,hz0,hz1,hz2⟩:=info_parts infoChar
 obtain ⟨hn,_⟩:=hown.crs
 have hm:=hsrc.len
 have ho:w.ownsRow base 41 1 (.slice A n c) n (cellsC cs):=by rw [hn];rw [hn] at hown;exact hown.1
 cases A' with
 | none =>
  have hc0:=hsrc.nil_ rfl
  have hle:=hsrc.le
  obtain rfl:c'=0:=hc0
  obtain rfl:m=0:=by omega
  obtain rfl:ds=[]:=List.eq_nil_of_length_eq_zero hm
  exact ⟨A,c,w,run_append_owned_none w base 33 ty 41 i0 1 Tryz.underlying33 hi (.slice A n c) n (cellsC cs) ho,by rw [List.append_nil];exact hown,World.grownBy.refl w _,Or.inl rfl⟩
 | some ad =>
  obtain ⟨v',w1,hr,hv,hg,_,hat⟩:=run_append_own_at (P:=Tryz.prog) w base 33 ty 41 i0 (.int .i32 0) 1 4 Tryz.underlying33 hi hz0 hz1 hz2 rfl (by decide) (.slice A n c) n (cellsC cs) ho ad m c' (cellsC ds)
   (by rw [len_cellsC,hm,Nat.mul_one]) (hsrc.src.2 ad rfl) (cellsC_one ds) (by unfold maxLen;omega) hfit hbase
  have hV:OwnC w1 base v' (cs ++ ds):=by
   refine ⟨?_,fun x hx=>(List.mem_append.1 hx).elim (hown.2 x) (hsrc.js x)⟩
   rw [List.length_append,← hn,hm,cellsC_append]
   exact hv
  obtain ⟨A2,c2,e,hb2,_⟩:=hV.shape
  have hl2:(cs ++ ds).length=n + m:=by rw [List.length_append,← hn,hm]
  rw [hl2] at e
  subst e
  exact ⟨A2,c2,w1,hr,hV,hg,hat⟩
theorem step_append_crs {ops:Array Oper} {o:Oper} {a:Act} {K:Act→World→Prop} {Q:Exit→Act→World→Prop} {E:Prop} (w:World) (hgd:o.guard=none) (s x:Operand)
  (ho:o.op=.call { callee:=.builtin .append,args:=#[s,x],argTypes:=#[33,33] })
  (base:Nat) (A:Option Addr) (n c:Nat) (cs:List Int) (hs:a.eval s=.slice A n c) (hown:OwnC w base (.slice A n c) cs)
  (B:Nat) (A':Option Addr) (m c':Nat) (ds:List Int) (hx:a.eval x=.slice A' m c') (hsrc:Crs w B A' m c' ds)
  (hfit:(n + m) * 4≤140737488355328) (hbase:base≤w.heap.size)
  (h:∀ A2 c2 w',OwnC w' base (.slice A2 (n + m) c2) (cs ++ ds)→w.grownBy w' (Value.ownBlock (.slice A n c)) →
   (Value.ownBlock (.slice A2 (n + m) c2)=Value.ownBlock (.slice A n c)∨Value.ownBlock (.slice A2 (n + m) c2)=some w.heap.size)→K (a.put o.dst (.slice A2 (n + m) c2)) w') :
  if Region.wanted o (yielded ops a.tmps)=true then Oper.wp Tryz.prog o a w K Q else E:=by
 have hw:Region.wanted o (yielded ops a.tmps)=true:=by simp [Region.wanted,hgd]
 rw [if_pos hw]
 obtain ⟨A2,c2,w1,hr,h1,h2,h3⟩:=run_append_crs2 w o.type base A n c cs hown B A' m c' ds hsrc hfit hbase
 unfold Oper.wp execOp
 simp only [ho,resolve,invoke,builtin,Sem.run_bind,Sem.run_pure,Result.andThen_ok,List.map_toArray,List.map_cons,List.map_nil,hs,hx,hr]
 exact h A2 c2 w1 h1 h2 h3
end Go.Proofs.YtlgdcelgkiipaaaGreat.Tbl
