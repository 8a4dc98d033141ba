/-
  Words for memory, over a seat that has []api.Char and no []uint8: 'Below' and small words for worlds; 'Tn': which blocks a call may turn; 'Crs', 'OwnC': code points; 'OwnR': a slice of structs at the head of a block of the call's own; parts, 'append', stores. No conditions but those that each lemma states.
-/
import Derived.Test.YtlgdcelgkiipaaaGreatProg
import Derived.WalkKit
import Derived.WalkSpells
import Derived.WalkLawsBesides
import Derived.IntWalk
import Derived.Lib.Hide
import Derived.Lib.SliceRun
import Derived.Below
import Derived.OpenShut
import Derived.OneCell
import Derived.OwnWalk
import Derived.BigFrame
import Derived.Laws.OwnMore
import Derived.Laws.Rows
import Derived.Deep.Draws
import Derived.Maps.AppendAt
import Derived.Laws.AppendOwnNone
set_option maxRecDepth 100000
set_option linter.unusedVariables false
namespace Go.Proofs.YtlgdcelgkiipaaaGreat
open Go.RowKit
theorem below_drew {B:Nat} {w w':World} (h:Below B w.drew w'):Below B w w':=⟨h.os,h.tape,h.output,h.size,h.block⟩
theorem below_drawn {B:Nat} {w w':World} (h:Below B w w'):Below B w w'.drew:=⟨h.os,h.tape,h.output,h.size,h.block⟩
theorem below_alloc {w w1:World} (h:Below w.heap.size w w1) (o:Obj):Below w.heap.size w (w1.alloc o):=h.alloc h.size o
theorem below_then {w w1 w2:World} (h:Below w.heap.size w w1) (hb:Below w1.heap.size w1 w2):Below w.heap.size w w2:=h.trans (hb.mono h.size)
theorem below_size {B:Nat} {w w':World} (h:Below B w w'):w.heap.size≤w'.heap.size:=h.size
structure Tn (T:Nat→Prop) (w w':World):Prop where
 os:w'.os=w.os
 tape:w'.tape=w.tape
 output:w'.output=w.output
 size:w.heap.size≤w'.heap.size
 block:∀ b,b<w.heap.size→¬ T b→w'.heap[b]?=w.heap[b]?
section
variable {T T':Nat→Prop} {w w' w1 w2:World}
theorem Tn.refl (T:Nat→Prop) (w:World):Tn T w w:=⟨rfl,rfl,rfl,Nat.le_refl _,fun _ _ _=>rfl⟩
theorem Tn.trans (h:Tn T w w1) (k:Tn T' w1 w2) (hT:∀ b,b<w.heap.size→T' b→T b):Tn T w w2 :=
 ⟨k.os.trans h.os,k.tape.trans h.tape,k.output.trans h.output,Nat.le_trans h.size k.size,fun b hb hn=>(k.block b (Nat.lt_of_lt_of_le hb h.size) (fun ht=>hn (hT b hb ht))).trans (h.block b hb hn)⟩
theorem Tn.more (h:Tn T w w') (hT:∀ b,b<w.heap.size→T b→T' b):Tn T' w w':=⟨h.os,h.tape,h.output,h.size,fun b hb hn=>h.block b hb (fun ht=>hn (hT b hb ht))⟩
theorem Tn.of (T:Nat→Prop) (h:Below w.heap.size w w'):Tn T w w':=⟨h.os,h.tape,h.output,h.size,fun b hb _=>h.block b hb⟩
theorem Tn.drew (h:Tn T w w'):Tn T w w'.drew:=⟨h.os,h.tape,h.output,h.size,h.block⟩
theorem Tn.drawn (h:Tn T w.drew w'):Tn T w w':=⟨h.os,h.tape,h.output,h.size,h.block⟩
theorem Tn.alloc (h:Tn T w w') (o:Obj):Tn T w (w'.alloc o):=h.trans (T':=T) (Tn.of T ((Below.refl _ _).alloc (Nat.le_refl _) o)) (fun _ _ x=>x)
theorem Tn.set_ (h:Tn T w w') {p:Addr} (hp:w.heap.size≤p.block∨T p.block) (u:Value):Tn T w (w'.setCell p u) :=
 ⟨h.os,h.tape,h.output,by simpa [World.setCell] using h.size,fun b hb hn=>(Below.heap_setCell w' p u b (fun e=>by
  rcases hp with hp | hp
  ·omega
  ·exact hn (e ▸ hp))).trans (h.block b hb hn)⟩
theorem Tn.grown (h:Tn T w w') {row:Option Nat} (hg:w'.grownBy w1 row) (hr:∀ k,row=some k→w.heap.size≤k∨T k):Tn T w w1 :=
 ⟨hg.os.trans h.os,hg.tape.trans h.tape,hg.output.trans h.output,Nat.le_trans h.size hg.size,fun b hb hn=>(hg.block b (Nat.lt_of_lt_of_le hb h.size) (fun e=>by
  rcases hr b e.symm with h1 | h1
  ·omega
  ·exact hn h1)).trans (h.block b hb hn)⟩
theorem Tn.cell (h:Tn T w w') {p:Addr} (hp:p.block<w.heap.size) (hn:¬ T p.block):w'.cell? p=w.cell? p:=World.cell?_of_block (w:=w) (h.block p.block hp hn)
theorem Tn.below (h:Tn T w w') {B:Nat} {w0:World} (hb:Below B w0 w) (hB:B≤w.heap.size) (hT:∀ b,T b→B≤b):Below B w0 w' :=
 ⟨h.os.trans hb.os,h.tape.trans hb.tape,h.output.trans hb.output,Nat.le_trans hb.size h.size,fun b hbB=>(h.block b (by omega) (fun ht=>by have:=hT b ht;omega)).trans (hb.block b hbB)⟩
def Apart (T:Nat→Prop) (A:Option Addr) (n:Nat):Prop:=0<n→∀ ad,A=some ad→¬ T ad.block
theorem Apart.none_ (T:Nat→Prop) (n:Nat):Apart T none n:=fun _ _ h=>by cases h
end
theorem blk_set {w:World} {p i:Nat} {cs:Array Value} {t:TypeId} {fr:Nat × Nat} (h:w.heap[p]?=some (.cells cs t fr)) (u:Value):(w.setCell ⟨p,i,none⟩ u).heap[p]?=some (.cells (cs.setIfInBounds i u) t fr):=by
 have hlt:=lt_of_block h
 have h':w.heap[p]=.cells cs t fr:=by simpa [Array.getElem?_eq_getElem hlt] using h
 show (w.heap.modify p _)[p]?=_
 rw [Array.getElem?_eq_getElem (by simpa using hlt),Array.getElem_modify_self,h']
 rfl
theorem blk_keep {w:World} {p:Nat} {a:Addr} (u:Value) (h:p≠a.block):(w.setCell a u).heap[p]?=w.heap[p]?:=Below.heap_setCell w a u p h
theorem cell0 {w:World} {p:Nat} {a:Value} {r:List Value} {t:TypeId} (h:w.heap[p]?=some (.cells (a :: r).toArray t (0,0))):w.cell? ⟨p,0,none⟩=some a:=by
 rw [cell_of_row w p 0 _ _ _ h];simp
theorem cell1 {w:World} {p:Nat} {a b:Value} {r:List Value} {t:TypeId} (h:w.heap[p]?=some (.cells (a :: b :: r).toArray t (0,0))):w.cell? ⟨p,1,none⟩=some b:=by
 rw [cell_of_row w p 1 _ _ _ h];simp
theorem cell2 {w:World} {p:Nat} {a b c:Value} {r:List Value} {t:TypeId} (h:w.heap[p]?=some (.cells (a :: b :: c :: r).toArray t (0,0))):w.cell? ⟨p,2,none⟩=some c:=by
 rw [cell_of_row w p 2 _ _ _ h];simp
theorem cell3 {w:World} {p:Nat} {a b c d:Value} {r:List Value} {t:TypeId} (h:w.heap[p]?=some (.cells (a :: b :: c :: d :: r).toArray t (0,0))):w.cell? ⟨p,3,none⟩=some d:=by
 rw [cell_of_row w p 3 _ _ _ h];simp
theorem heap_new {w:World} {o:Obj} {p:Nat} (h:p=w.heap.size):(w.alloc o).heap[p]?=some o:=by rw [h];exact heap_alloc_new w o
theorem Tn.old {T:Nat→Prop} {w w':World} (h:Tn T w w') {b:Nat} {o:Obj} (hb:w.heap[b]?=some o) (hT:¬ T b):w'.heap[b]?=some o:=(h.block b (lt_of_block hb) hT).trans hb
theorem below_old {B:Nat} {w w':World} (h:Below B w w') {b:Nat} {o:Obj} (hb:w.heap[b]?=some o) (hB:b<B):w'.heap[b]?=some o:=(h.block b hB).trans hb
theorem Tn.new {T:Nat→Prop} {B:Nat} {w w':World} (h:Tn T w w') (hB:B≤w.heap.size) (hT:∀ b,T b→B≤b):Below B w w':=h.below (Below.refl B w) hB hT
theorem Tn.byBelow {T:Nat→Prop} {B:Nat} {w w':World} (h:Below B w w') (hT:∀ b,B≤b→T b):Tn T w w' :=
 ⟨h.os,h.tape,h.output,h.size,fun b _ hn=>h.block b (Nat.lt_of_not_le fun hb=>hn (hT b hb))⟩
def Pl.J (x:Int):Prop:=-2147483648≤x∧x≤2147483647
theorem Pl.J.out {x:Int} (h:Pl.J x):-2147483648≤x∧x≤2147483647:=h
def cellsC (cs:List Int):List Value:=cs.map fun x:Int=>Value.int .i32 x
def Crs (w:World) (B:Nat) (A:Option Addr) (n c:Nat) (cs:List Int):Prop :=
 cs.length=n∧n≤c∧c≤maxLen∧(A=none→c=0)∧(∀ x ∈ cs,Pl.J x) ∧
  (0<n→∃ g o,A=some ⟨g,o,none⟩∧g<B∧∀ i,i<n→w.cell? ⟨g,o + i,none⟩=some (.int .i32 (cs.getD i 0)))
theorem len_cellsC (cs:List Int):(cellsC cs).length=cs.length:=by simp [cellsC]
theorem cellsC_append (a b:List Int):cellsC (a ++ b)=cellsC a ++ cellsC b:=by simp [cellsC]
theorem cellsC_at (cs:List Int) (i:Nat) (h:i<cs.length):(cellsC cs)[i]?=some (.int .i32 (cs.getD i 0)):=by
 simp [cellsC,List.getElem?_map,List.getElem?_eq_getElem h,List.getD_eq_getElem?_getD]
theorem cellsC_set (cs:List Int) (i:Nat) (x:Int):cellsC (cs.set i x)=(cellsC cs).set i (.int .i32 x):=by simp [cellsC]
theorem cellsC_one (cs:List Int):∀ u ∈ cellsC cs,u.oneCell'=true:=by
 intro u hu
 obtain ⟨x,_,rfl⟩:=List.mem_map.1 hu
 rfl
section
variable {w w':World} {B B':Nat} {A:Option Addr} {n c:Nat} {cs:List Int}
theorem Crs.none_ (w:World) (B:Nat):Crs w B none 0 0 []:=⟨rfl,Nat.le_refl _,Nat.zero_le _,fun _=>rfl,(fun x hx=>by cases hx),fun h=>absurd h (by omega)⟩
theorem Crs.len (h:Crs w B A n c cs):cs.length=n:=h.1
theorem Crs.le (h:Crs w B A n c cs):n≤c:=h.2.1
theorem Crs.cap (h:Crs w B A n c cs):c≤maxLen:=h.2.2.1
theorem Crs.nil_ (h:Crs w B A n c cs):A=none→c=0:=h.2.2.2.1
theorem Crs.js (h:Crs w B A n c cs):∀ x ∈ cs,Pl.J x:=h.2.2.2.2.1
theorem Crs.at_ (h:Crs w B A n c cs) {i:Nat} (hi:i<n):∃ g o,A=some ⟨g,o,none⟩∧g<B∧∀ i,i<n→w.cell? ⟨g,o + i,none⟩=some (.int .i32 (cs.getD i 0)):=h.2.2.2.2.2 (by omega)
theorem Crs.more (h:Crs w B A n c cs) (hB:B≤B'):Crs w B' A n c cs :=
 ⟨h.1,h.2.1,h.2.2.1,h.2.2.2.1,h.2.2.2.2.1,fun hn=>by
  obtain ⟨g,o,e,hg,hc⟩:=h.2.2.2.2.2 hn
  exact ⟨g,o,e,by omega,hc⟩⟩
theorem Crs.keep (h:Crs w B A n c cs) (hk:∀ p:Addr,p.block<B→w'.cell? p=w.cell? p):Crs w' B A n c cs :=
 ⟨h.1,h.2.1,h.2.2.1,h.2.2.2.1,h.2.2.2.2.1,fun hn=>by
  obtain ⟨g,o,e,hg,hc⟩:=h.2.2.2.2.2 hn
  exact ⟨g,o,e,hg,fun i hi=>(hk ⟨g,o + i,none⟩ hg).trans (hc i hi)⟩⟩
theorem Crs.below (h:Crs w B A n c cs) (hb:Below B' w w') (hB:B≤B'):Crs w' B A n c cs:=h.keep fun _ hp=>hb.cell (Nat.lt_of_lt_of_le hp hB)
theorem Crs.then_ (h:Crs w w.heap.size A n c cs) (hb:Below w.heap.size w w'):Crs w' w'.heap.size A n c cs:=(h.below hb (Nat.le_refl _)).more hb.size
theorem Crs.src (h:Crs w B A n c cs):(A=none→n=0∧c=0)∧(∀ ad,A=some ad→∀ j u,(cellsC cs)[j]?=some u→w.cell? (ad.add j)=some u):=by
 refine ⟨fun e=>?_,fun ad e j u hu=>?_⟩
 ·have:=h.nil_ e;have:=h.le;omega
 ·have hj:j<cs.length:=by
   have:=(List.getElem?_eq_some_iff.1 hu).1
   simpa [cellsC] using this
  have hl:=h.len
  obtain ⟨g,o,e',_,hc⟩:=h.at_ (i:=j) (by omega)
  rw [e] at e'
  obtain rfl:=Option.some.inj e'
  rw [Addr.add_lit,hc j (by omega),← cellsC_at cs j hj,hu]
theorem Crs.part {g o:Nat} (h:Crs w B (some ⟨g,o,none⟩) n c cs) {k m:Nat} (hk:k + m≤n):Crs w B (some ⟨g,o + k,none⟩) m (c - k) ((cs.drop k).take m):=by
 have hl:=h.len
 have hc:=h.cap
 have hle:=h.le
 refine ⟨by rw [List.length_take,List.length_drop,hl];omega,by omega,Nat.le_trans (Nat.sub_le _ _) hc,(fun e=>by cases e),(fun x hx=>h.js x (List.mem_of_mem_drop (List.mem_of_mem_take hx))),fun h0=>?_⟩
 obtain ⟨g',o',e,hg,hcell⟩:=h.at_ (i:=k) (by omega)
 cases e
 refine ⟨g,o + k,rfl,hg,fun i hi=>?_⟩
 rw [Nat.add_assoc,hcell (k + i) (by omega),List.getD_eq_getElem?_getD,List.getD_eq_getElem?_getD,List.getElem?_take,if_pos hi,List.getElem?_drop]
end
theorem Crs.open_ {W:World} {x:Addr} {len cap:Nat} {zs:List Int} (hl:len≤cap) (hm:cap≤maxLen) (hz:zs.length=cap)
  (hcell:∀ i,i<zs.length→W.cell? (x.add i)=some (.int .i32 (zs.getD i 0))) (hwz:∀ n ∈ zs,(Lit.int .i32 n).wf=true) :
  Crs W W.heap.size (some x) len cap (zs.take len):=by
 have hb:∀ n ∈ zs,-2147483648≤n∧n≤2147483647:=fun n hn=>bounds_i32 (hwz n hn)
 refine ⟨by rw [List.length_take];omega,hl,hm,(fun e=>by cases e),(fun y hy=>hb y (List.mem_of_mem_take hy)),fun h0=>?_⟩
 obtain ⟨b,off,spot⟩:=x
 have hc:=hcell 0 (by omega)
 have hspot:spot=none:=by simpa [Addr.add] using World.cell?_spot hc
 subst hspot
 refine ⟨b,off,rfl,World.block_lt_of_cell? W ⟨b,off,none⟩ (by simpa [Addr.add_lit] using hc),fun i hi=>?_⟩
 have hci:=hcell i (by omega)
 rw [Addr.add_lit] at hci
 rw [hci,List.getD_eq_getElem?_getD,List.getD_eq_getElem?_getD,List.getElem?_take,if_pos hi]
def OwnC (w:World) (base:Nat) (v:Value) (cs:List Int):Prop:=w.ownsRow base 41 1 v cs.length (cellsC cs)∧∀ x ∈ cs,Pl.J x
theorem infoChar:(Tryz.prog.info? 41).map (fun i=>(i.zero,i.size,i.bytes))=some (some (.int .i32 0),1,4):=by kernel_rfl
section
variable {w w':World} {base c n:Nat} {A:Option Addr} {cs:List Int} {v:Value}
theorem OwnC.nil_ (w:World) (base:Nat):OwnC w base (.slice none 0 0) []:=⟨World.ownsRow_nil w base _ 1,fun x hx=>by cases hx⟩
theorem OwnC.shape (h:OwnC w base v cs):∃ A cap,v=.slice A cs.length cap∧Crs w w.heap.size A cs.length cap cs∧(∀ a,A=some a→base≤a.block):=by
 rcases h.1.2 with ⟨e,h0⟩ | ⟨g,cap,cur,e,hb,hg,h1,h2,h3,h4⟩
 ·have:=List.eq_nil_of_length_eq_zero h0
  subst this
  exact ⟨none,0,e,Crs.none_ _ _,fun a h=>by cases h⟩
 ·refine ⟨some ⟨g,0,none⟩,cap,e,⟨rfl,h1,h2,(fun e=>by cases e),h.2,fun _=>⟨g,0,rfl,?_,fun i hi=>?_⟩⟩,fun a h=>by cases h;exact hb⟩
  ·exact (h.1.lt g (by rw [e];rfl)).2
  ·have:=h.1
   rw [e] at this
   rw [Nat.zero_add,this.cellAt i (by omega),cellsC_at cs i hi]
theorem OwnC.crs (h:OwnC w base (.slice A n c) cs):n=cs.length∧Crs w w.heap.size A n c cs:=by
 obtain ⟨A',c',e,hb,_⟩:=h.shape
 injection e with e1 e2 e3
 subst e1 e2 e3
 exact ⟨rfl,hb⟩
theorem OwnC.lt (h:OwnC w base v cs):∀ g,v.ownBlock=some g→base≤g∧g<w.heap.size:=h.1.lt
theorem OwnC.grown {row:Option Nat} (h:OwnC w base v cs) (hg:w.grownBy w' row) (hne:v.ownBlock=none∨v.ownBlock≠row):OwnC w' base v cs:=⟨h.1.kept hg hne,h.2⟩
theorem OwnC.alloc (h:OwnC w base v cs) (o:Obj):OwnC (w.alloc o) base v cs:=⟨h.1.alloc o,h.2⟩
theorem OwnC.same (h:OwnC w base v cs) (hs:∀ g,base≤g→g<w.heap.size→v.ownBlock=some g→w'.heap[g]?=w.heap[g]?):OwnC w' base v cs:=by
 refine ⟨⟨h.1.1,?_⟩,h.2⟩
 have hlt:=h.1.lt
 rcases h.1.2 with e | ⟨g,cap,cur,e,hb,hg,hr⟩
 ·exact Or.inl e
 ·refine Or.inr ⟨g,cap,cur,e,hb,?_,hr⟩
  have h2:v.ownBlock=some g:=by rw [e];rfl
  rw [hs g hb (hlt g h2).2 h2];exact hg
theorem OwnC.below {B:Nat} (h:OwnC w base v cs) (hb:Below B w w') (hB:∀ g,v.ownBlock=some g→g<B):OwnC w' base v cs:=h.same fun g _ _ h3=>hb.block g (hB g h3)
theorem OwnC.lower {base':Nat} (h:OwnC w base v cs) (hb:base'≤base):OwnC w base' v cs:=by
 refine ⟨⟨h.1.1,?_⟩,h.2⟩
 rcases h.1.2 with e | ⟨g,cap,cur,e,h0,hh,hr⟩
 ·exact Or.inl e
 ·exact Or.inr ⟨g,cap,cur,e,by omega,hh,hr⟩
end
theorem crs_lit (w:World) (cs:List Int) (hj:∀ x ∈ cs,Pl.J x) (hl:cs.length≤maxLen):OwnC (w.alloc (.cells (cellsC cs).toArray 41)) w.heap.size (.slice (some ⟨w.heap.size,0,none⟩) cs.length cs.length) cs:=by
 have h:=World.ownsRow_lit (base:=w.heap.size) (e:=41) (size:=1) w (cellsC cs).toArray cs.length (Nat.le_refl _) hl (by simp [len_cellsC])
 exact ⟨by simpa using h,hj⟩
theorem wpList_append_crs {ops:Array Oper} {rest:List Oper} {o:Oper} {a:Act} {Q:Exit→Act→World→Prop} (w:World) (hgd:o.guard=none) (s x:Operand)
  (ho:o.op=.call { callee:=.builtin .append,args:=#[s,x],argTypes:=#[33,33] })
  (base:Nat) (A:Option Addr) (n c:Nat) (cs:List Int) (hs:a.eval s=.slice A n c) (hown:OwnC w base (.slice A n c) cs)
  (B:Nat) (A':Option Addr) (m c':Nat) (ds:List Int) (hx:a.eval x=.slice A' m c') (hsrc:Crs w B A' m c' ds)
  (hfit:(n + m) * 4≤140737488355328) (hbase:base≤w.heap.size)
  (h:∀ A2 c2 w',OwnC w' base (.slice A2 (n + m) c2) (cs ++ ds)→w.grownBy w' (Value.ownBlock (.slice A n c)) →
   (Value.ownBlock (.slice A2 (n + m) c2)=Value.ownBlock (.slice A n c)∨Value.ownBlock (.slice A2 (n + m) c2)=some w.heap.size) →
   wpList Tryz.prog ops Q rest (a.put o.dst (.slice A2 (n + m) c2)) w'):wpList Tryz.prog ops Q (o :: rest) a w:=by
 obtain ⟨i0,hi,hz0,hz1,hz2⟩:=info_parts infoChar
 obtain ⟨hn,_⟩:=hown.crs
 have hm:=hsrc.len
 cases A' with
 | none =>
  have hc0:=hsrc.nil_ rfl
  have hle:=hsrc.le
  obtain rfl:c'=0:=hc0
  obtain rfl:m=0:=by omega
  obtain rfl:ds=[]:=List.eq_nil_of_length_eq_zero hm
  refine wpList_append_own_none hgd s x 33 ho base 41 i0 1 Tryz.underlying33 hi (.slice A n c) n (cellsC cs) hs (by rw [hn];rw [hn] at hown;exact hown.1) hx ?_
  exact h A c w (by rw [List.append_nil];exact hown) (World.grownBy.refl w _) (Or.inl rfl)
 | some ad =>
  refine wpList_append_own_at w hgd s x 33 ho base 41 i0 (.int .i32 0) 1 4 Tryz.underlying33 hi hz0 hz1 hz2 rfl (by decide) (.slice A n c) n (cellsC cs) hs (by rw [hn];rw [hn] at hown;exact hown.1) ad m c' (cellsC ds) hx
   (by rw [len_cellsC,hm,Nat.mul_one]) (hsrc.src.2 ad rfl) (cellsC_one ds) (by unfold maxLen;omega) hfit hbase ?_
  intro v' w1 hv hg _ hat
  have hV:OwnC w1 base v' (cs ++ ds):=by
   refine ⟨?_,fun x hx=>(List.mem_append.1 hx).elim (hown.2 x) (hsrc.js x)⟩
   rw [List.length_append,← hn,hm,cellsC_append]
   exact hv
  obtain ⟨A2,c2,e,hb2,_⟩:=hV.shape
  have hl2:(cs ++ ds).length=n + m:=by rw [List.length_append,← hn,hm]
  rw [hl2] at e
  subst e
  exact h A2 c2 w1 hV hg hat
theorem below_appendC {w w' w0:World} {base:Nat} {A:Option Addr} {n c:Nat} {cs:List Int} (hown:OwnC w base (.slice A n c) cs) (hg:w.grownBy w' (Value.ownBlock (.slice A n c))) (hb:Below base w0 w) (hsz:base≤w.heap.size):Below base w0 w' :=
 hb.grown hg hsz (fun k e=>(hown.lt k e).1)
theorem cellsChar:Tryz.prog.cellsOf 41=1:=by kernel_rfl
theorem Crs.mid {w:World} {B n c k m:Nat} {A:Option Addr} {bs:List Int} (h:Crs w B A n c bs) (hk:k≤m) (hm:m≤n) (l u:Int) (hl:l=(k:Int)) (hu:u=(m:Int)) :
  ∃ A2,Crs w B A2 (m - k) (c - k) ((bs.drop k).take (m - k))∧∀ w',(Instr.sliceAt 33 (.slice A n c) (some (.int .i64 l)) (some (.int .i64 u)) none).run Tryz.prog w'=.ok (.slice A2 (m - k) (c - k)) w':=by
 subst hl hu
 have hle:=h.le
 obtain ⟨i0,hi,_⟩:=info_parts infoChar
 have hu:Tryz.prog.underlying 33=some (.slice (Tryz.prog.elem 33)):=by kernel_rfl
 have he:Tryz.prog.elem 33=41:=by kernel_rfl
 have hrun:∀ w',(Instr.sliceAt 33 (.slice A n c) (some (.int .i64 (k:Int))) (some (.int .i64 (m:Int))) none).run Tryz.prog w'=.ok (sliced A k m c 1) w':=by
  intro w'
  rw [run_sliceAt_slice w' _ _ _ _ _ hu,run_slice_lh w' 33 A n c hu .i64 .i64 (k:Int) (m:Int) (by omega) (by omega) (by omega),he,run_sizeOf w' hi]
  simp [Result.andThen,cellsChar]
 have hl:=h.len
 have hc:=h.cap
 by_cases hck:c=k
 ·refine ⟨A,?_,fun w'=>by rw [hrun];simp [sliced,hck]⟩
  have h0:m - k=0:=by omega
  rw [h0,show c - k=0 by omega,List.take_zero]
  exact ⟨rfl,Nat.le_refl _,Nat.zero_le _,(fun _=>rfl),(fun x hx=>by cases hx),fun h=>absurd h (by omega)⟩
 ·refine ⟨A.map (·.add k),?_,fun w'=>by rw [hrun];simp [sliced,hck]⟩
  refine ⟨by rw [List.length_take,List.length_drop,hl];omega,by omega,Nat.le_trans (Nat.sub_le _ _) hc,(fun e=>?_),(fun x hx=>h.js x (List.mem_of_mem_drop (List.mem_of_mem_take hx))),fun h0=>?_⟩
  ·cases A with
   | none=>have:=h.nil_ rfl;omega
   | some ad=>cases e
  ·obtain ⟨g,o,e,hg,hcell⟩:=h.at_ (i:=k) (by omega)
   subst e
   refine ⟨g,o + k,by rw [← Addr.add_lit g o k];rfl,hg,fun i hi=>?_⟩
   rw [Nat.add_assoc,hcell (k + i) (by omega),List.getD_eq_getElem?_getD,List.getD_eq_getElem?_getD,List.getElem?_take,if_pos hi,List.getElem?_drop]
theorem OwnC.pos_ {w:World} {base n c:Nat} {A:Option Addr} {cs:List Int} (h:OwnC w base (.slice A n c) cs) (hn:0<n):∃ g,A=some ⟨g,0,none⟩∧base≤g:=by
 rcases h.1.2 with ⟨e,_⟩ | ⟨g,cap,cur,e,hb,_⟩
 ·injection e with e1 e2;omega
 ·injection e with e1 e2 e3
  exact ⟨g,e1,hb⟩
theorem OwnC.set_ {w:World} {base g n c:Nat} {cs:List Int} (h:OwnC w base (.slice (some ⟨g,0,none⟩) n c) cs) (i:Nat) (x:Int) (hx:Pl.J x) :
  OwnC (w.setCell ⟨g,i,none⟩ (.int .i32 x)) base (.slice (some ⟨g,0,none⟩) n c) (cs.set i x)∧w.grownBy (w.setCell ⟨g,i,none⟩ (.int .i32 x)) (some g):=by
 obtain ⟨hn,_⟩:=h.crs
 have h1:=h.1
 rw [← hn] at h1
 have hs:=h1.stored i (.int .i32 x)
 refine ⟨⟨?_,?_⟩,hs.2⟩
 ·rw [List.length_set,cellsC_set,← hn];exact hs.1
 ·intro y hy
  rcases List.mem_or_eq_of_mem_set hy with hy | rfl
  ·exact h.2 y hy
  ·exact hx
theorem OwnC.tn {T:Nat→Prop} {w w':World} {base:Nat} {v:Value} {cs:List Int} (h:OwnC w base v cs) (ht:Tn T w w') (hg:∀ g,v.ownBlock=some g→¬ T g):OwnC w' base v cs:=h.same fun g _ h2 h3=>ht.block g h2 (hg g h3)
theorem slice_toC (A:Option Addr) (n c k:Nat) (hk:k≤c):∀ w',(Instr.sliceAt 33 (.slice A n c) none (some (.int .i64 (k:Int))) none).run Tryz.prog w'=.ok (.slice A k c) w':=by
 intro w'
 obtain ⟨i0,hi,_⟩:=info_parts infoChar
 have hu:Tryz.prog.underlying 33=some (.slice (Tryz.prog.elem 33)):=by kernel_rfl
 have he:Tryz.prog.elem 33=41:=by kernel_rfl
 rw [run_sliceAt_slice w' _ _ _ _ _ hu,run_slice_h w' 33 A n c hu .i64 (k:Int) (by omega) (by omega),he,run_sizeOf w' hi]
 simp only [Result.andThen,sliced,Int.toNat_natCast,Nat.zero_mul,Nat.sub_zero]
 congr 2
 split
 ·rfl
 ·cases A <;> rfl
theorem Crs.upto {w:World} {B n c:Nat} {A:Option Addr} {cs:List Int} (h:Crs w B A n c cs) {k:Nat} (hk:k≤n):Crs w B A k c (cs.take k):=by
 have hl:=h.len
 refine ⟨by rw [List.length_take];omega,Nat.le_trans hk h.le,h.cap,h.nil_,(fun x hx=>h.js x (List.mem_of_mem_take hx)),fun h0=>?_⟩
 obtain ⟨g,o,e,hg,hc⟩:=h.at_ (i:=0) (by omega)
 refine ⟨g,o,e,hg,fun i hi=>?_⟩
 rw [hc i (by omega),List.getD_eq_getElem?_getD,List.getD_eq_getElem?_getD,List.getElem?_take,if_pos hi]
theorem OwnC.upto {w:World} {base n c:Nat} {A:Option Addr} {cs:List Int} (h:OwnC w base (.slice A n c) cs) {k:Nat} (hk:k≤n):OwnC w base (.slice A k c) (cs.take k):=by
 obtain ⟨hn,_⟩:=h.crs
 have hl:(cs.take k).length=k:=by rw [List.length_take];omega
 refine ⟨?_,fun x hx=>h.2 x (List.mem_of_mem_take hx)⟩
 rw [hl]
 refine ⟨by rw [len_cellsC,hl,Nat.mul_one],?_⟩
 rcases h.1.2 with ⟨e,h0⟩ | ⟨g,cap,cur,e,hb,hg,h1,h2,h3,h4⟩
 ·injection e with e1 e2 e3
  subst e1 e2 e3
  exact Or.inl ⟨by rw [show k=0 by omega],by omega⟩
 ·injection e with e1 e2 e3
  subst e1 e3
  refine Or.inr ⟨g,c,cur,rfl,hb,hg,by omega,h2,h3,?_⟩
  rw [Nat.mul_one] at h4 ⊢
  rw [show k=min k cs.length by omega,← List.take_take,h4,cellsC,cellsC,List.map_take]
  congr 1
  omega
section
variable {α:Type}
def cellsR (enc:α→List Value) (l:List α):List Value:=l.flatMap enc
theorem cellsR_append (enc:α→List Value) (a b:List α):cellsR enc (a ++ b)=cellsR enc a ++ cellsR enc b:=by simp [cellsR]
theorem len_cellsR {enc:α→List Value} {k:Nat} (hk:∀ x,(enc x).length=k) (l:List α):(cellsR enc l).length=l.length * k:=by
 induction l with
 | nil=>simp [cellsR]
 | cons x l ih =>
  have e:cellsR enc (x :: l)=enc x ++ cellsR enc l:=by simp [cellsR]
  rw [e,List.length_append,hk,ih,List.length_cons,Nat.add_mul];omega
theorem cellsR_at [Inhabited α] {enc:α→List Value} {k:Nat} (hk:∀ x,(enc x).length=k):∀ (l:List α) (i j:Nat),i<l.length→j<k→(cellsR enc l)[i * k + j]?=(enc (l.getD i default))[j]?
 | [],i,j,h,_=>by simp at h
 | x :: l,0,j,_,hj=>by
  have e:cellsR enc (x :: l)=enc x ++ cellsR enc l:=by simp [cellsR]
  rw [e,Nat.zero_mul,Nat.zero_add,List.getElem?_append_left (by rw [hk];exact hj)];simp
 | x :: l,i + 1,j,h,hj=>by
  have e:cellsR enc (x :: l)=enc x ++ cellsR enc l:=by simp [cellsR]
  rw [e,List.getElem?_append_right (by rw [hk,Nat.add_mul];omega),hk,show (i + 1) * k + j - k=i * k + j by rw [Nat.add_mul];omega,cellsR_at hk l i j (by simpa using h) hj]
  simp
theorem cellsR_take {enc:α→List Value} {k:Nat} (hk:∀ x,(enc x).length=k):∀ (l:List α) (i:Nat),(cellsR enc l).take (i * k)=cellsR enc (l.take i)
 | [],i=>by simp [cellsR]
 | x :: l,0=>by simp [cellsR]
 | x :: l,i + 1=>by
  have e:cellsR enc (x :: l)=enc x ++ cellsR enc l:=by simp [cellsR]
  have e2:cellsR enc ((x :: l).take (i + 1))=enc x ++ cellsR enc (l.take i):=by simp [cellsR]
  rw [e,e2,List.take_append,hk,show (i + 1) * k - k=i * k by rw [Nat.add_mul];omega,cellsR_take hk l i,List.take_of_length_le (by rw [hk,Nat.add_mul];omega)]
theorem cellsR_drop {enc:α→List Value} {k:Nat} (hk:∀ x,(enc x).length=k):∀ (l:List α) (i:Nat),(cellsR enc l).drop (i * k)=cellsR enc (l.drop i)
 | [],i=>by simp [cellsR]
 | x :: l,0=>by simp [cellsR]
 | x :: l,i + 1=>by
  have e:cellsR enc (x :: l)=enc x ++ cellsR enc l:=by simp [cellsR]
  rw [e,List.drop_append,hk,show (i + 1) * k - k=i * k by rw [Nat.add_mul];omega,List.drop_succ_cons,cellsR_drop hk l i,List.drop_of_length_le (by rw [hk,Nat.add_mul];omega),List.nil_append]
theorem cellsR_set {enc:α→List Value} {k:Nat} (hk:∀ x,(enc x).length=k) (u:Value) (j:Nat) (hj:j<k):∀ (l:List α) (i:Nat) (x y:α),l[i]?=some x→enc y=(enc x).set j u→(cellsR enc l).set (i * k + j) u=cellsR enc (l.set i y)
 | [],i,x,y,h,_=>by simp at h
 | z :: l,0,x,y,h,hy=>by
  simp at h
  subst h
  have e:cellsR enc (z :: l)=enc z ++ cellsR enc l:=by simp [cellsR]
  have e2:cellsR enc ((z :: l).set 0 y)=enc y ++ cellsR enc l:=by simp [cellsR]
  rw [e,e2,hy,Nat.zero_mul,Nat.zero_add,List.set_append_left _ _ (by rw [hk];exact hj)]
 | z :: l,i + 1,x,y,h,hy=>by
  have e:cellsR enc (z :: l)=enc z ++ cellsR enc l:=by simp [cellsR]
  have e2:cellsR enc ((z :: l).set (i + 1) y)=enc z ++ cellsR enc (l.set i y):=by simp [cellsR]
  rw [e,e2,List.set_append_right _ _ (by rw [hk,Nat.add_mul];omega),hk,show (i + 1) * k + j - k=i * k + j by rw [Nat.add_mul];omega,cellsR_set hk u j hj l i x y (by simpa using h) hy]
def Rws (enc:α→List Value) (w:World) (B:Nat) (A:Option Addr) (n c:Nat) (l:List α):Prop :=
 l.length=n∧n≤c∧c≤maxLen∧(A=none→c=0)∧(0<n→∃ g o,A=some ⟨g,o,none⟩∧g<B∧∀ (j:Nat) (u:Value),(cellsR enc l)[j]?=some u→w.cell? ⟨g,o + j,none⟩=some u)
def OwnR (enc:α→List Value) (k:Nat) (e:TypeId) (w:World) (base:Nat) (v:Value) (l:List α):Prop:=w.ownsRow base e k v l.length (cellsR enc l)
variable {enc:α→List Value} {k:Nat} {e:TypeId} {w w':World} {B B' base n c:Nat} {A:Option Addr} {l:List α} {v:Value}
theorem Rws.none_ (enc:α→List Value) (w:World) (B:Nat):Rws enc w B none 0 0 []:=⟨rfl,Nat.le_refl _,Nat.zero_le _,fun _=>rfl,fun h=>absurd h (by omega)⟩
theorem Rws.len (h:Rws enc w B A n c l):l.length=n:=h.1
theorem Rws.le (h:Rws enc w B A n c l):n≤c:=h.2.1
theorem Rws.cap (h:Rws enc w B A n c l):c≤maxLen:=h.2.2.1
theorem Rws.nil_ (h:Rws enc w B A n c l):A=none→c=0:=h.2.2.2.1
theorem Rws.at_ [Inhabited α] (hk:∀ x,(enc x).length=k) (h:Rws enc w B A n c l) {i:Nat} (hi:i<n) :
  ∃ g o,A=some ⟨g,o,none⟩∧g<B∧∀ i,i<n→∀ j u,j<k→(enc (l.getD i default))[j]?=some u→w.cell? ⟨g,o + (i * k + j),none⟩=some u:=by
 obtain ⟨g,o,e1,hg,hc⟩:=h.2.2.2.2 (by omega)
 exact ⟨g,o,e1,hg,fun i hi j u hj hu=>hc _ _ (by rw [cellsR_at hk l i j (by rw [h.1];exact hi) hj];exact hu)⟩
theorem Rws.more (h:Rws enc w B A n c l) (hB:B≤B'):Rws enc w B' A n c l :=
 ⟨h.1,h.2.1,h.2.2.1,h.2.2.2.1,fun hn=>by
  obtain ⟨g,o,e,hg,hc⟩:=h.2.2.2.2 hn
  exact ⟨g,o,e,by omega,hc⟩⟩
theorem Rws.below (h:Rws enc w B A n c l) (hb:Below B' w w') (hB:B≤B'):Rws enc w' B A n c l :=
 ⟨h.1,h.2.1,h.2.2.1,h.2.2.2.1,fun hn=>by
  obtain ⟨g,o,e,hg,hc⟩:=h.2.2.2.2 hn
  exact ⟨g,o,e,hg,fun j u hu=>(hb.cell (p:=⟨g,o + j,none⟩) (Nat.lt_of_lt_of_le hg hB)).trans (hc j u hu)⟩⟩
theorem Rws.then_ (h:Rws enc w w.heap.size A n c l) (hb:Below w.heap.size w w'):Rws enc w' w'.heap.size A n c l:=(h.below hb (Nat.le_refl _)).more hb.size
theorem Rws.tn {T:Nat→Prop} (h:Rws enc w w.heap.size A n c l) (ht:Tn T w w') (hA:Apart T A n):Rws enc w' w'.heap.size A n c l :=
 ⟨h.1,h.2.1,h.2.2.1,h.2.2.2.1,fun hn=>by
  obtain ⟨g,o,e,hg,hc⟩:=h.2.2.2.2 hn
  exact ⟨g,o,e,Nat.lt_of_lt_of_le hg ht.size,fun i u hi=>(ht.cell (p:=⟨g,o + i,none⟩) hg (hA hn ⟨g,o,none⟩ e)).trans (hc i u hi)⟩⟩
theorem OwnR.nil_ (enc:α→List Value) (k:Nat) (e:TypeId) (w:World) (base:Nat):OwnR enc k e w base (.slice none 0 0) []:=World.ownsRow_nil w base e k
theorem OwnR.lt (h:OwnR enc k e w base v l):∀ g,v.ownBlock=some g→base≤g∧g<w.heap.size:=World.ownsRow.lt h
theorem OwnR.shape (hk:∀ x,(enc x).length=k) (h:OwnR enc k e w base v l):∃ A cap,v=.slice A l.length cap∧Rws enc w w.heap.size A l.length cap l∧(∀ a,A=some a→base≤a.block):=by
 rcases h.2 with ⟨e1,h0⟩ | ⟨g,cap,cur,e1,hb,hg,h1,h2,h3,h4⟩
 ·have:=List.eq_nil_of_length_eq_zero h0
  subst this
  exact ⟨none,0,e1,Rws.none_ _ _ _,fun a h=>by cases h⟩
 ·refine ⟨some ⟨g,0,none⟩,cap,e1,⟨rfl,h1,h2,(fun e=>by cases e),fun _=>⟨g,0,rfl,?_,fun j u hu=>?_⟩⟩,fun a h=>by cases h;exact hb⟩
  ·exact (World.ownsRow.lt h g (by rw [e1];rfl)).2
  ·have h':=h
   rw [e1] at h'
   have hj:j<l.length * k:=by rw [← len_cellsR hk l];exact (List.getElem?_eq_some_iff.1 hu).1
   rw [Nat.zero_add,World.ownsRow.cellAt h' j hj];exact hu
theorem OwnR.rws (hk:∀ x,(enc x).length=k) (h:OwnR enc k e w base (.slice A n c) l):n=l.length∧Rws enc w w.heap.size A n c l:=by
 obtain ⟨A',c',e',hb,_⟩:=h.shape hk
 injection e' with e1 e2 e3
 subst e1 e2 e3
 exact ⟨rfl,hb⟩
theorem OwnR.alloc (h:OwnR enc k e w base v l) (o:Obj):OwnR enc k e (w.alloc o) base v l:=World.ownsRow.alloc h o
theorem OwnR.same (h:OwnR enc k e w base v l) (hs:∀ g,base≤g→g<w.heap.size→v.ownBlock=some g→w'.heap[g]?=w.heap[g]?):OwnR enc k e w' base v l:=by
 refine ⟨h.1,?_⟩
 have hlt:=World.ownsRow.lt h
 rcases h.2 with e1 | ⟨g,cap,cur,e1,hb,hg,hr⟩
 ·exact Or.inl e1
 ·refine Or.inr ⟨g,cap,cur,e1,hb,?_,hr⟩
  have h2:v.ownBlock=some g:=by rw [e1];rfl
  rw [hs g hb (hlt g h2).2 h2];exact hg
theorem OwnR.below (h:OwnR enc k e w base v l) (hb:Below B w w') (hB:∀ g,v.ownBlock=some g→g<B):OwnR enc k e w' base v l:=h.same fun g _ _ h3=>hb.block g (hB g h3)
theorem OwnR.then_ (h:OwnR enc k e w base v l) (hb:Below w.heap.size w w'):OwnR enc k e w' base v l:=h.below hb fun g hg=>(h.lt g hg).2
theorem OwnR.tn {T:Nat→Prop} (h:OwnR enc k e w base v l) (ht:Tn T w w') (hg:∀ g,v.ownBlock=some g→¬ T g):OwnR enc k e w' base v l:=h.same fun g _ h2 h3=>ht.block g h2 (hg g h3)
theorem OwnR.lower {base':Nat} (h:OwnR enc k e w base v l) (hb:base'≤base):OwnR enc k e w base' v l:=by
 refine ⟨h.1,?_⟩
 rcases h.2 with e1 | ⟨g,cap,cur,e1,h0,hh,hr⟩
 ·exact Or.inl e1
 ·exact Or.inr ⟨g,cap,cur,e1,by omega,hh,hr⟩
theorem OwnR.lit (hk:∀ x,(enc x).length=k) (w:World) (l:List α) (hl:l.length≤maxLen):OwnR enc k e (w.alloc (.cells (cellsR enc l).toArray e)) w.heap.size (.slice (some ⟨w.heap.size,0,none⟩) l.length l.length) l:=by
 have h:=World.ownsRow_lit (base:=w.heap.size) (e:=e) (size:=k) w (cellsR enc l).toArray l.length (Nat.le_refl _) hl (by simp [len_cellsR hk])
 simpa [OwnR] using h
theorem OwnR.pos_ (h:OwnR enc k e w base (.slice A n c) l) (hn:0<n):∃ g,A=some ⟨g,0,none⟩∧base≤g∧g<w.heap.size:=by
 rcases h.2 with ⟨e1,_⟩ | ⟨g,cap,cur,e1,hb,hg,_⟩
 ·injection e1 with e1 e2;omega
 ·injection e1 with e1 e2 e3
  exact ⟨g,e1,hb,lt_of_block hg⟩
theorem OwnR.set_ (hk:∀ x,(enc x).length=k) {g:Nat} (h:OwnR enc k e w base (.slice (some ⟨g,0,none⟩) n c) l) (i j:Nat) (u:Value) (hj:j<k) (x y:α) (hx:l[i]?=some x) (hy:enc y=(enc x).set j u) :
  OwnR enc k e (w.setCell ⟨g,i * k + j,none⟩ u) base (.slice (some ⟨g,0,none⟩) n c) (l.set i y)∧w.grownBy (w.setCell ⟨g,i * k + j,none⟩ u) (some g):=by
 obtain ⟨hn,_⟩:=h.rws hk
 unfold OwnR at h
 rw [← hn] at h
 have hs:=World.ownsRow.stored h (i * k + j) u
 refine ⟨?_,hs.2⟩
 unfold OwnR
 rw [List.length_set,← hn,← cellsR_set hk u j hj l i x y hx hy];exact hs.1
theorem run_append_rws (hk:∀ x,(enc x).length=k) (h1:∀ x,∀ u ∈ enc x,u.oneCell'=true) {t:TypeId} {z:Value} {bytes:Nat} (hu:Tryz.prog.underlying t=some (.slice e)) (hinfo:(Tryz.prog.info? e).map (fun i=>(i.zero,i.size,i.bytes))=some (some z,k,bytes)) (hzs:z.cells.size=k) (hsz:0<k)
  (w:World) (ty:TypeId) (base:Nat) (A:Option Addr) (n c:Nat) (l:List α) (hown:OwnR enc k e w base (.slice A n c) l)
  (B:Nat) (A':Option Addr) (m c':Nat) (d:List α) (hsrc:Rws enc w B A' m c' d) (hmax:n + m≤maxLen) (hfit:(n + m) * bytes≤140737488355328) (hbase:base≤w.heap.size) :
  ∃ A2 c2 w',(Builtin.append_ #[t,t] ty #[.slice A n c,.slice A' m c']).run Tryz.prog w=.ok (.slice A2 (n + m) c2) w'∧OwnR enc k e w' base (.slice A2 (n + m) c2) (l ++ d)∧w.grownBy w' (Value.ownBlock (.slice A n c)) ∧
   (Value.ownBlock (.slice A2 (n + m) c2)=Value.ownBlock (.slice A n c)∨Value.ownBlock (.slice A2 (n + m) c2)=some w.heap.size):=by
 obtain ⟨i0,hi,hz0,hz1,hz2⟩:=info_parts hinfo
 obtain ⟨hn,_⟩:=hown.rws hk
 have hm:=hsrc.len
 have ho:w.ownsRow base e k (.slice A n c) n (cellsR enc l):=by unfold OwnR at hown;rwa [← hn] at hown
 by_cases hA':A'=none
 ·subst hA'
  have hc0:=hsrc.nil_ rfl
  have hle:=hsrc.le
  obtain rfl:c'=0:=hc0
  obtain rfl:m=0:=by omega
  obtain rfl:d=[]:=List.eq_nil_of_length_eq_zero hm
  exact ⟨A,c,w,run_append_owned_none w base t ty e i0 k hu hi (.slice A n c) n (cellsR enc l) ho,by rw [List.append_nil];exact hown,World.grownBy.refl w _,Or.inl rfl⟩
 ·obtain ⟨ad,rfl⟩:=Option.ne_none_iff_exists'.1 hA'
  have hnews:∀ j u,(cellsR enc d)[j]?=some u→w.cell? (ad.add j)=some u:=by
   intro j u hj
   have hlt:j<(cellsR enc d).length:=(List.getElem?_eq_some_iff.1 hj).1
   rw [len_cellsR hk] at hlt
   have hd0:0<d.length:=Nat.pos_of_ne_zero fun h=>by rw [h] at hlt;omega
   obtain ⟨g,o,e1,_,hc⟩:=hsrc.2.2.2.2 (by omega)
   cases e1
   rw [Addr.add_lit];exact hc j u hj
  obtain ⟨v',w1,hr,hv,hg,_,hat⟩:=run_append_own_at (P:=Tryz.prog) w base t ty e i0 z k bytes hu hi hz0 hz1 hz2 hzs hsz (.slice A n c) n (cellsR enc l) ho ad m c' (cellsR enc d)
   (by rw [len_cellsR hk,hm]) hnews (fun u hu'=>by
    obtain ⟨x,_,hx⟩:=List.mem_flatMap.1 hu'
    exact h1 x u hx) hmax hfit hbase
  have hV:OwnR enc k e w1 base v' (l ++ d):=by
   unfold OwnR
   rw [List.length_append,← hn,hm,cellsR_append]
   exact hv
  obtain ⟨A2,c2,e2,hb2,_⟩:=hV.shape hk
  have hl2:(l ++ d).length=n + m:=by rw [List.length_append,← hn,hm]
  rw [hl2] at e2
  subst e2
  exact ⟨A2,c2,w1,hr,hV,hg,hat⟩
theorem wpList_append_rws {ops:Array Oper} {rest:List Oper} {o:Oper} {a:Act} {Q:Exit→Act→World→Prop} (hk:∀ x,(enc x).length=k) (h1:∀ x,∀ u ∈ enc x,u.oneCell'=true) {t:TypeId} {z:Value} {bytes:Nat} (hu:Tryz.prog.underlying t=some (.slice e)) (hinfo:(Tryz.prog.info? e).map (fun i=>(i.zero,i.size,i.bytes))=some (some z,k,bytes)) (hzs:z.cells.size=k) (hsz:0<k)
  (w:World) (hgd:o.guard=none) (s x:Operand) (ho:o.op=.call { callee:=.builtin .append,args:=#[s,x],argTypes:=#[t,t] })
  (base:Nat) (A:Option Addr) (n c:Nat) (l:List α) (hs:a.eval s=.slice A n c) (hown:OwnR enc k e w base (.slice A n c) l)
  (B:Nat) (A':Option Addr) (m c':Nat) (d:List α) (hx:a.eval x=.slice A' m c') (hsrc:Rws enc w B A' m c' d) (hmax:n + m≤maxLen) (hfit:(n + m) * bytes≤140737488355328) (hbase:base≤w.heap.size)
  (h:∀ A2 c2 w',OwnR enc k e w' base (.slice A2 (n + m) c2) (l ++ d)→w.grownBy w' (Value.ownBlock (.slice A n c)) →
   (Value.ownBlock (.slice A2 (n + m) c2)=Value.ownBlock (.slice A n c)∨Value.ownBlock (.slice A2 (n + m) c2)=some w.heap.size) →
   wpList Tryz.prog ops Q rest (a.put o.dst (.slice A2 (n + m) c2)) w'):wpList Tryz.prog ops Q (o :: rest) a w:=by
 obtain ⟨A2,c2,w1,hr,h2,h3,h4⟩:=run_append_rws hk h1 hu hinfo hzs hsz w o.type base A n c l hown B A' m c' d hsrc hmax hfit hbase
 refine wpList_plain hgd fun K hK=>?_
 unfold Oper.wp execOp
 simp only [ho,resolve,invoke,builtin,Sem.run_bind,Sem.run_pure,Result.andThen_ok,List.map_toArray,List.map_cons,List.map_nil,hs,hx,hr]
 exact hK _ _ (h A2 c2 w1 h2 h3 h4)
theorem OwnR.grownBelow {w0:World} (hown:OwnR enc k e w base (.slice A n c) l) (hg:w.grownBy w' (Value.ownBlock (.slice A n c))) (hb:Below base w0 w) (hsz:base≤w.heap.size):Below base w0 w' :=
 hb.grown hg hsz (fun j e=>(hown.lt j e).1)
theorem Rws.part (hk:∀ x,(enc x).length=k) (h:Rws enc w B A n c l) {i m:Nat} (hi:i≤m) (hm:m≤n):Rws enc w B (if c=i then A else A.map (·.add (i * k))) (m - i) (c - i) ((l.drop i).take (m - i)):=by
 have hl:=h.len
 have hc:=h.cap
 have hle:=h.le
 split
 ·have h0:m - i=0:=by omega
  rw [h0,show c - i=0 by omega,List.take_zero]
  exact ⟨rfl,Nat.le_refl _,Nat.zero_le _,(fun _=>rfl),fun h=>absurd h (by omega)⟩
 ·refine ⟨by rw [List.length_take,List.length_drop,hl];omega,by omega,Nat.le_trans (Nat.sub_le _ _) hc,(fun e=>?_),fun h0=>?_⟩
  ·cases A with
   | none=>have:=h.nil_ rfl;omega
   | some ad=>cases e
  ·obtain ⟨g,o,e1,hg,hcell⟩:=h.2.2.2.2 (by omega)
   subst e1
   refine ⟨g,o + i * k,by rw [← Addr.add_lit g o (i * k)];rfl,hg,fun j u hu=>?_⟩
   rw [Nat.add_assoc]
   refine hcell (i * k + j) u ?_
   have hj:=(List.getElem?_eq_some_iff.1 hu).1
   rw [← cellsR_take hk,← cellsR_drop hk,List.getElem?_take] at hu
   split at hu
   ·rwa [List.getElem?_drop] at hu
   ·cases hu
end
end Go.Proofs.YtlgdcelgkiipaaaGreat
