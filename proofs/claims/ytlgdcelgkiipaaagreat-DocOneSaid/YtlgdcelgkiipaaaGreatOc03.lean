/-
  Rows of units in memory, and how they come out of what can be read as data. Conditions: those that each states.
  A row of code points of the law's own, cell by cell: many cells stored at once; slices.Delete at it. Conditions: those that each states.
  slices.Delete at a row of code points of the law's own. Conditions: the row is one; 0 ≤ i ≤ j ≤ its length.
  slices.overlaps and slices.Insert at a row of code points of the law's own. Conditions: the row is one; 0 ≤ i ≤ its length; what is put in lies in another block; both together at most a million.
-/
import Derived.Test.YtlgdcelgkiipaaaGreatOc02
import Derived.Test.YtlgdcelgkiipaaaGreatOc00
import Derived.Deep.RegionLaw
import Derived.Lib.SliceRun
import Derived.StillTailTactics
import Derived.Lib.AppendZerosOnto
import Derived.Laws.Externs
import Derived.Laws.IdiomCopy
set_option maxRecDepth 100000
set_option linter.unusedVariables false
namespace Go.Proofs.YtlgdcelgkiipaaaGreat
open Go.RowKit Go.ChangeShapes Go.WideShapes
open Pl (Un)
instance:Inhabited Un:=⟨⟨0,0,0,0,0⟩⟩
def encU (u:Un):List Value:=[.int .i64 u.k,.int .i64 u.p,.int .i32 u.c,.int .u32 u.x,.int .u64 u.y]
theorem encU_len (u:Un):(encU u).length=5:=rfl
theorem encU_one (u:Un):∀ v ∈ encU u,v.oneCell'=true:=by
 intro v hv
 simp only [encU,List.mem_cons,List.not_mem_nil,or_false] at hv
 rcases hv with rfl | rfl | rfl | rfl | rfl <;> rfl
theorem infoUn:(Tryz.prog.info? 47).map (fun i=>(i.zero,i.size,i.bytes))=some (some (.agg #[.int .i64 0,.int .i64 0,.int .i32 0,.int .u32 0,.int .u64 0]),5,40):=by kernel_rfl
abbrev Uns:=Rws encU
abbrev OwnU (w:World) (base:Nat) (v:Value) (l:List Un):Prop:=OwnR encU 5 47 w base v l
theorem Uns.at_ {w:World} {B:Nat} {A:Option Addr} {n c:Nat} {l:List Un} (h:Uns w B A n c l) {i:Nat} (hi:i<n) :
  ∃ g o,A=some ⟨g,o,none⟩∧g<B∧∀ i,i<n→w.cell? ⟨g,o + i * 5,none⟩=some (.int .i64 (l.getD i default).k)∧w.cell? ⟨g,o + i * 5 + 1,none⟩=some (.int .i64 (l.getD i default).p)∧w.cell? ⟨g,o + i * 5 + 2,none⟩=some (.int .i32 (l.getD i default).c) ∧
   w.cell? ⟨g,o + i * 5 + 3,none⟩=some (.int .u32 (l.getD i default).x)∧w.cell? ⟨g,o + i * 5 + 4,none⟩=some (.int .u64 (l.getD i default).y):=by
 obtain ⟨g,o,e,hg,hc⟩:=Rws.at_ encU_len h hi
 exact ⟨g,o,e,hg,fun i hi=>⟨hc i hi 0 _ (by decide) rfl,hc i hi 1 _ (by decide) rfl,hc i hi 2 _ (by decide) rfl,hc i hi 3 _ (by decide) rfl,hc i hi 4 _ (by decide) rfl⟩⟩
theorem OwnU.cells {w:World} {base g n c:Nat} {l:List Un} (h:OwnU w base (.slice (some ⟨g,0,none⟩) n c) l) {i:Nat} (hi:i<n) :
  w.cell? ⟨g,i * 5,none⟩=some (.int .i64 (l.getD i default).k)∧w.cell? ⟨g,i * 5 + 1,none⟩=some (.int .i64 (l.getD i default).p)∧w.cell? ⟨g,i * 5 + 2,none⟩=some (.int .i32 (l.getD i default).c) ∧
   w.cell? ⟨g,i * 5 + 3,none⟩=some (.int .u32 (l.getD i default).x)∧w.cell? ⟨g,i * 5 + 4,none⟩=some (.int .u64 (l.getD i default).y)∧∀ j,w.frozen? ⟨g,j,none⟩=false:=by
 obtain ⟨hn,_⟩:=OwnR.rws encU_len h
 have h':w.ownsRow base 47 5 (.slice (some ⟨g,0,none⟩) n c) n (cellsR encU l):=by
  have h1:w.ownsRow base 47 5 (.slice (some ⟨g,0,none⟩) n c) l.length (cellsR encU l):=h
  rwa [← hn] at h1
 have hat:=fun j (hj:j<5)=>(World.ownsRow.cellAt h' (i * 5 + j) (by omega)).trans (cellsR_at encU_len l i j (by omega) hj)
 exact ⟨hat 0 (by decide),hat 1 (by decide),hat 2 (by decide),hat 3 (by decide),hat 4 (by decide),fun j=>World.ownsRow.frozenAt h' j⟩
theorem pick_list {α:Type} [Inhabited α] (n:Nat) (P:Nat→α→Prop) (h:∀ i,i<n→∃ a,P i a):∃ l:List α,l.length=n∧∀ i,i<n→P i (l.getD i default):=by
 classical
 refine ⟨(List.range n).map fun i=>if hi:i<n then Classical.choose (h i hi) else default,by simp,fun i hi=>?_⟩
 rw [List.getD_eq_getElem?_getD,List.getElem?_map,List.getElem?_range hi]
 simp only [Option.map_some,Option.getD_some,dif_pos hi]
 exact Classical.choose_spec (h i hi)
theorem Rws.of_cells {α:Type} [Inhabited α] {enc:α→List Value} {k:Nat} (hk:∀ x,(enc x).length=k) (h0:0<k) {w:World} {B n c g o:Nat} {l:List α} (hl:l.length=n) (hc:n≤c) (hm:c≤maxLen) (hg:0<n→g<B)
  (h:∀ i,i<n→∀ j u,j<k→(enc (l.getD i default))[j]?=some u→w.cell? ⟨g,o + (i * k + j),none⟩=some u):Rws enc w B (some ⟨g,o,none⟩) n c l:=by
 refine ⟨hl,hc,hm,(fun e=>by cases e),fun hn=>⟨g,o,rfl,hg hn,fun j u hj=>?_⟩⟩
 have hlt:=(List.getElem?_eq_some_iff.1 hj).1
 rw [len_cellsR hk] at hlt
 have hi:j / k<n:=by rw [← hl];exact Nat.div_lt_of_lt_mul (by rw [Nat.mul_comm];exact hlt)
 have hr:j % k<k:=Nat.mod_lt _ h0
 have e:j / k * k + j % k=j:=by rw [Nat.mul_comm];exact Nat.div_add_mod j k
 have:=h (j / k) hi (j % k) u hr (by rw [← cellsR_at hk l (j / k) (j % k) (by omega) hr,e];exact hj)
 rwa [e] at this
section
variable {H:Type} {enc:TypeId × Value→H} {W:World}
theorem unit_cells {fuel:Nat} {a0 a1 a2 a3 a4:Value} {z:DataW H × List MemPlace} (hf:DataW.trod enc Tryz.prog W 0 (fun _=>true) true fuel 47 [a0,a1,a2,a3,a4]=some z):∃ u:Un,[a0,a1,a2,a3,a4]=encU u∧Pl.UnB u:=by
 obtain ⟨y0,y1,y2,y3,n,h0,h1,h2,h3⟩:=trod_struct4 Tryz.underlying47 hf
 simp only at h0 h1 h2 h3
 rw [show Tryz.prog.cellsOf 3=1 from by kernel_rfl] at h0 h1
 rw [show Tryz.prog.cellsOf 41=1 from by kernel_rfl] at h2
 rw [show Tryz.prog.cellsOf 43=2 from by kernel_rfl] at h3
 simp only [List.drop_zero,List.drop_succ_cons,List.take_succ_cons,List.take_zero] at h0 h1 h2 h3
 obtain ⟨k,g0,_,w0⟩:=DataW.trod_int Tryz.underlying3 h0
 obtain ⟨q,g1,_,w1⟩:=DataW.trod_int Tryz.underlying3 h1
 obtain ⟨c,g2,_,w2⟩:=DataW.trod_int Tryz.underlying41 h2
 obtain ⟨x,y,rfl,rfl,hb⟩:=open_id_cells h3
 obtain rfl:=(List.cons.inj g0).1
 obtain rfl:=(List.cons.inj g1).1
 obtain rfl:=(List.cons.inj g2).1
 have b0:=bounds_i64 w0
 have b1:=bounds_i64 w1
 have b2:=bounds_i32 w2
 exact ⟨⟨k,q,c,x,y⟩,rfl,Pl.I.mk (by simp only;omega),Pl.I.mk (by simp only;omega),(by unfold Pl.J;simp only;omega),hb⟩
def Units (w:World) (B:Nat) (A:Option Addr) (n c:Nat) (l:List Un):Prop:=Uns w B A n c l∧∀ u ∈ l,Pl.UnB u
theorem open_units_of {t:TypeId} (ht:Tryz.prog.underlying t=some (.slice 47)) {A0:Option Addr} {n c:Nat} {d:DataW H} {p:List MemPlace} (h:DataW.Trod enc Tryz.prog W 0 (fun _=>true) true t (.slice A0 n c) d p):∃ l,Units W W.heap.size A0 n c l:=by
 obtain ⟨fuel,hf⟩:=h
 rcases Deep.open_slice ht hf with ⟨h0,_⟩ | ⟨a,len,cap,m,n',D,Pl',hcs,_,hl,hm,hmm,_,hi⟩
 ·have hv:=(List.cons.inj h0).1
  injection hv with e1 e2 e3
  subst e1 e2 e3
  exact ⟨[],Rws.none_ _ _ _,fun u hu=>by cases hu⟩
 ·have hv:=(List.cons.inj hcs).1
  injection hv with e1 e2 e3
  subst e1 e2 e3
  obtain ⟨b,off,spot⟩:=a
  have hspot:0<n→spot=none:=fun h0=>by
   obtain ⟨cs',hc,_⟩:=hi 0 (by rw [hmm];split <;> omega)
   rw [show Tryz.prog.cellsOf 47=5 from by kernel_rfl] at hc
   obtain ⟨_,hcl,hat⟩:=World.cells?_some hc
   have h2:=hat 0 (by omega)
   rw [List.getElem?_eq_getElem (by omega)] at h2
   simpa [Addr.add] using World.cell?_spot h2
  obtain ⟨l,hl1,hl2⟩:=pick_list n (fun i (x:Un)=>(∀ j u,j<5→(encU x)[j]?=some u→W.cell? ⟨b,off + (i * 5 + j),none⟩=some u)∧b<W.heap.size∧Pl.UnB x) (fun i hin=>by
   obtain ⟨cs',hc,ht'⟩:=hi i (by rw [hmm];split <;> omega)
   rw [show Tryz.prog.cellsOf 47=5 from by kernel_rfl] at hc
   obtain ⟨_,hcl,hat⟩:=World.cells?_some hc
   rw [hspot (by omega)] at hat
   match cs',hcl,ht',hat with
   | [a0,a1,a2,a3,a4],_,ht',hat =>
    obtain ⟨u,hu,hb⟩:=unit_cells ht'
    rw [hu] at hat
    have hat':∀ j v,j<5→(encU u)[j]?=some v→W.cell? ⟨b,off + (i * 5 + j),none⟩=some v:=fun j v hj hv=>by
     have h2:=hat j (by simpa [encU] using hj)
     rw [Go.Deep.add_add,Addr.add_lit] at h2
     rw [h2]
     exact hv
    exact ⟨u,hat',World.block_lt_of_cell? W _ (hat' 0 _ (by decide) rfl),hb⟩)
  have hA:0<n→(some ⟨b,off,spot⟩ : Option Addr)=some ⟨b,off,none⟩:=fun h=>by rw [hspot h]
  refine ⟨l,?_,fun u hu=>?_⟩
  ·have hR:=Rws.of_cells (enc:=encU) (k:=5) encU_len (by decide) (w:=W) (B:=W.heap.size) (g:=b) (o:=off) hl1 hl hm (fun h=>(hl2 0 h).2.1) (fun i hi=>(hl2 i hi).1)
   exact ⟨hR.1,hR.2.1,hR.2.2.1,(fun e=>by cases e),fun h=>by rw [hA h];exact hR.2.2.2.2 h⟩
  ·obtain ⟨i,hi,rfl⟩:=List.getElem_of_mem hu
   have:=(hl2 i (by omega)).2.2
   rwa [List.getD_eq_getElem?_getD,List.getElem?_eq_getElem hi] at this
end
open Go.RowKit
def sets (cur:Array Value):Nat→List Value→Array Value
 | _,[]=>cur
 | o,v :: r=>sets (cur.setIfInBounds o v) (o + 1) r
theorem sets_size (vs:List Value):∀ (cur:Array Value) (o:Nat),(sets cur o vs).size=cur.size:=by
 induction vs with
 | nil=>intro cur o;rfl
 | cons v r ih=>intro cur o;show (sets (cur.setIfInBounds o v) (o + 1) r).size=_;rw [ih];simp
theorem sets_in (vs:List Value):∀ (cur:Array Value) (o i:Nat),i<vs.length→o + vs.length≤cur.size→(sets cur o vs)[o + i]?=vs[i]?:=by
 induction vs with
 | nil=>intro cur o i h;simp at h
 | cons v r ih =>
  intro cur o i h hs
  show (sets (cur.setIfInBounds o v) (o + 1) r)[o + i]?=_
  have hs':o + (r.length + 1)≤cur.size:=by simpa using hs
  cases i with
  | zero =>
   have:∀ (r:List Value) (c:Array Value) (k:Nat),o<k→(sets c k r)[o]?=c[o]?:=by
    intro r
    induction r with
    | nil=>intro c k _;rfl
    | cons u r ih=>intro c k hk;show (sets (c.setIfInBounds k u) (k + 1) r)[o]?=_;rw [ih _ _ (by omega),Array.getElem?_setIfInBounds_ne (by omega)]
   refine (this r (cur.setIfInBounds o v) (o + 1) (by omega)).trans ?_
   rw [Array.getElem?_setIfInBounds_self_of_lt (by omega)];rfl
  | succ i =>
   have:=ih (cur.setIfInBounds o v) (o + 1) i (by simpa using h) (by simp;omega)
   rw [show o + 1 + i=o + (i + 1) by omega] at this
   rw [this];rfl
theorem sets_out (vs:List Value):∀ (cur:Array Value) (o i:Nat),i<o∨o + vs.length≤i→(sets cur o vs)[i]?=cur[i]?:=by
 induction vs with
 | nil=>intro cur o i _;rfl
 | cons v r ih =>
  intro cur o i h
  have h':i<o∨o + (r.length + 1)≤i:=by simpa using h
  show (sets (cur.setIfInBounds o v) (o + 1) r)[i]?=_
  rw [ih _ _ _ (by omega),Array.getElem?_setIfInBounds_ne (by omega)]
theorem row_sets {g:Nat} {t:TypeId} {fr:Nat × Nat} (vs:List Value):∀ (w:World) (o:Nat) (cur:Array Value),w.heap[g]?=some (.cells cur t fr)→(w.setCells g o vs).heap[g]?=some (.cells (sets cur o vs) t fr):=by
 induction vs with
 | nil=>intro w o cur h;exact h
 | cons v r ih=>intro w o cur h;exact ih (w.setCell ⟨g,o,none⟩ v) (o + 1) _ (blk_set h v)
theorem tn_sets {g:Nat} (vs:List Value):∀ (w0 w:World) (o:Nat),Tn (fun b=>b=g) w0 w→Tn (fun b=>b=g) w0 (w.setCells g o vs):=by
 induction vs with
 | nil=>intro w0 w o h;exact h
 | cons v r ih=>intro w0 w o h;exact ih w0 (w.setCell ⟨g,o,none⟩ v) (o + 1) (Tn.set_ (T:=fun b=>b=g) h (p:=⟨g,o,none⟩) (Or.inr rfl) v)
def Rowc (w:World) (g n c:Nat) (cs:List Int) (cur:Array Value):Prop :=
 w.heap[g]?=some (.cells cur 41 (0,0))∧cur.size=c∧cs.length=n∧n≤c∧c≤maxLen∧(∀ x ∈ cs,Pl.J x)∧∀ i,i<n→cur[i]?=some (.int .i32 (cs.getD i 0))
theorem Rowc.own {w:World} {g n c base:Nat} {cs:List Int} {cur:Array Value} (h:Rowc w g n c cs cur) (hb:base≤g):OwnC w base (.slice (some ⟨g,0,none⟩) n c) cs:=by
 obtain ⟨h1,h2,h3,h4,h5,h6,h7⟩:=h
 refine ⟨⟨by rw [len_cellsC,Nat.mul_one],Or.inr ⟨g,c,cur,by rw [h3],hb,h1,by omega,h5,by omega,?_⟩⟩,h6⟩
 apply List.ext_getElem?
 intro i
 rw [Nat.mul_one,List.getElem?_take]
 rcases Nat.lt_or_ge i cs.length with hi | hi
 ·rw [if_pos hi,Array.getElem?_toList,h7 i (by omega),cellsC_at cs i hi]
 ·rw [if_neg (by omega),List.getElem?_eq_none (by rw [len_cellsC];exact hi)]
theorem OwnC.row {w:World} {g n c base:Nat} {cs:List Int} (h:OwnC w base (.slice (some ⟨g,0,none⟩) n c) cs):base≤g∧∃ cur,Rowc w g n c cs cur:=by
 obtain ⟨hn,_⟩:=h.crs
 have hJ:=h.2
 rcases h.1.2 with ⟨e,_⟩ | ⟨g',cap,cur,e,hb,hg,h1,h2,h3,h4⟩
 ·cases e
 ·cases e
  refine ⟨hb,cur,hg,by omega,by omega,by omega,h2,hJ,fun i hi=>?_⟩
  have:=cellsC_at cs i (by omega)
  rw [← h4,List.getElem?_take,Nat.mul_one,if_pos (by omega),Array.getElem?_toList] at this
  exact this
theorem Rowc.sets_ {w:World} {g n c k:Nat} {cs ds:List Int} {cur:Array Value} (h:Rowc w g n c cs cur) (o:Nat) (vs:List Value) (ho:o + vs.length≤c) (hk:k≤c) (hd:ds.length=k) (hJ:∀ x ∈ ds,Pl.J x)
  (h1:∀ i,i<k→o≤i→i<o + vs.length→vs[i - o]?=some (.int .i32 (ds.getD i 0))) (h2:∀ i,i<k→i<o∨o + vs.length≤i→cur[i]?=some (.int .i32 (ds.getD i 0))):Rowc (w.setCells g o vs) g k c ds (sets cur o vs):=by
 obtain ⟨g1,g2,g3,g4,g5,g6,g7⟩:=h
 refine ⟨row_sets vs w o cur g1,by rw [sets_size];exact g2,hd,hk,g5,hJ,fun i hi=>?_⟩
 rcases Nat.lt_or_ge i o with hio | hio
 ·rw [sets_out vs cur o i (Or.inl hio)];exact h2 i hi (Or.inl hio)
 ·rcases Nat.lt_or_ge i (o + vs.length) with hiv | hiv
  ·have:=sets_in vs cur o (i - o) (by omega) (by omega)
   rw [show o + (i - o)=i by omega] at this
   rw [this];exact h1 i hi hio hiv
  ·rw [sets_out vs cur o i (Or.inr hiv)];exact h2 i hi (Or.inr hiv)
theorem Rowc.cell {w:World} {g n c:Nat} {cs:List Int} {cur:Array Value} (h:Rowc w g n c cs cur) {j:Nat} (hj:j<c):(w.cell? ⟨g,j,none⟩).isSome=true∧w.frozen? ⟨g,j,none⟩=false:=by
 refine ⟨?_,frozen_of_row w g j _ _ h.1⟩
 rw [cell_of_row w g j _ _ _ h.1,Array.getElem?_eq_getElem (by rw [h.2.1];exact hj)]
 rfl
theorem Rowc.drew {w:World} {g n c:Nat} {cs:List Int} {cur:Array Value} (h:Rowc w g n c cs cur):Rowc w.drew g n c cs cur:=h
open Go.RowKit
theorem getD_app (a b:List Int) (i:Nat):(a ++ b).getD i 0=if i<a.length then a.getD i 0 else b.getD (i - a.length) 0:=by
 simp only [List.getD_eq_getElem?_getD,List.getElem?_append]
 split <;> rfl
theorem getD_take (a:List Int) (k i:Nat) (h:i<k):(a.take k).getD i 0=a.getD i 0:=by
 simp only [List.getD_eq_getElem?_getD,List.getElem?_take,if_pos h]
theorem getD_drop (a:List Int) (k i:Nat):(a.drop k).getD i 0=a.getD (k + i) 0:=by
 simp only [List.getD_eq_getElem?_getD,List.getElem?_drop]
def Turned (w:World) (v:Value) (base k:Nat) (cs:List Int) (e:Ending) (w':World):Prop :=
 ∃ A2 c2,e=.returned (.slice A2 k c2)∧OwnC w' base (.slice A2 k c2) cs∧Tn (fun b=>v.ownBlock=some b) w w'∧∀ g,Value.ownBlock (.slice A2 k c2)=some g→v.ownBlock=some g∨w.heap.size≤g
theorem slice_ijn (A:Option Addr) (n c i j:Nat) (hi:i≤j) (hj:j≤n) (hn:n≤c) (l u m:Int) (hl:l=(i:Int)) (hu:u=(j:Int)) (hm:m=(n:Int)):∃ v,∀ w',(Instr.sliceAt 33 (.slice A n c) (some (.int .i64 l)) (some (.int .i64 u)) (some (.int .i64 m))).run Tryz.prog w'=.ok v w':=by
 subst hl hu hm
 obtain ⟨i0,hi0,_⟩:=info_parts infoChar
 have hu:Tryz.prog.underlying 33=some (.slice (Tryz.prog.elem 33)):=by kernel_rfl
 have he:Tryz.prog.elem 33=41:=by kernel_rfl
 refine ⟨?_,fun w'=>?_⟩
 rotate_left
 ·rw [run_sliceAt_slice w' _ _ _ _ _ hu,run_slice_lhm w' 33 A n c hu .i64 .i64 .i64 (i:Int) (j:Int) (n:Int) (by omega) (by omega) (by omega) (by omega),he,run_sizeOf w' hi0]
  simp only [Result.andThen]
  rfl
theorem slice_fromC (g n c k:Nat) (hk:k≤n):∀ w',(Instr.sliceAt 33 (.slice (some ⟨g,0,none⟩) n c) (some (.int .i64 (k:Int))) none none).run Tryz.prog w'=.ok (.slice (some (if c=k then ⟨g,0,none⟩ else ⟨g,k,none⟩)) (n - k) (c - k)) w':=by
 intro w'
 obtain ⟨i0,hi0,_⟩:=info_parts infoChar
 have hu:Tryz.prog.underlying 33=some (.slice (Tryz.prog.elem 33)):=by kernel_rfl
 have he:Tryz.prog.elem 33=41:=by kernel_rfl
 rw [run_sliceAt_slice w' _ _ _ _ _ hu,run_slice_l w' 33 _ n c hu .i64 (k:Int) (by omega) (by omega),he,run_sizeOf w' hi0]
 by_cases h:c=k
 ·simp [Result.andThen,sliced,h]
 ·simp [Result.andThen,cellsChar,sliced,h,Addr.add_lit]
theorem slice_midC (g n c k m:Nat) (hk:k≤m) (hm:m≤c) (hkc:k<c):∀ w',(Instr.sliceAt 33 (.slice (some ⟨g,0,none⟩) n c) (some (.int .i64 (k:Int))) (some (.int .i64 (m:Int))) none).run Tryz.prog w'=.ok (.slice (some ⟨g,k,none⟩) (m - k) (c - k)) w':=by
 intro w'
 obtain ⟨i0,hi0,_⟩:=info_parts infoChar
 have hu:Tryz.prog.underlying 33=some (.slice (Tryz.prog.elem 33)):=by kernel_rfl
 have he:Tryz.prog.elem 33=41:=by kernel_rfl
 rw [run_sliceAt_slice w' _ _ _ _ _ hu,run_slice_lh w' 33 _ n c hu .i64 .i64 (k:Int) (m:Int) (by omega) (by omega) (by omega),he,run_sizeOf w' hi0]
 have h:¬ c=k:=by omega
 simp [Result.andThen,cellsChar,sliced,h,Addr.add_lit]
theorem zeroChar:∀ w,(zeroValue 41).run Tryz.prog w=.ok (.int .i32 0) w:=by
 intro w
 obtain ⟨i0,hi0,hz0,_⟩:=info_parts infoChar
 simp [zeroValue,typeInfo,hi0,hz0]
set_option maxHeartbeats 1000000 in
theorem delC_any (w:World) (base:Nat) (A:Option Addr) (n c:Nat) (cs:List Int) (h:OwnC w base (.slice A n c) cs) (i k:Nat) (hk:i + k≤n) :
  Calls Tryz.prog 100 #[.slice A n c,.int .i64 (i:Int),.int .i64 ((i + k:Nat):Int)] w (Turned w (.slice A n c) base (n - k) (cs.take i ++ cs.drop (i + k))):=by
 obtain ⟨hn,hS⟩:=h.crs
 have hle:=hS.le
 have hcap:=hS.cap
 unfold maxLen at hcap
 obtain ⟨j,hj⟩ : ∃ j,j=i + k:=⟨_,rfl⟩
 rw [← hj]
 obtain ⟨v3,hv3⟩:=slice_ijn A n c i j (by omega) (by omega) hle (i:Int) (j:Int) (n:Int) rfl rfl rfl
 by_cases hk0:k=0
 ·subst hk0
  have e:cs.take i ++ cs.drop j=cs:=by rw [hj,Nat.add_zero,List.take_append_drop]
  rw [e,Nat.sub_zero]
  have hij:i=j:=by omega
  subst hij
  have H:=Lib.hid (show Turned w (.slice A n c) base n cs (.returned (.slice A n c)) w from ⟨A,c,rfl,h,Tn.refl _ w,fun g hg=>Or.inl hg⟩)
  clear h hS hn e hj hcap
  go_enter Tryz.func100,Tryz.ntmps100
  go_wp2_with fail
  go_ret
  exact H.out
 ·have hne:((i:Int) == (j:Int))=false:=by rw [beq_eq_false_iff_ne];omega
  obtain ⟨g,rfl,hbg⟩:=OwnC.pos_ h (by omega)
  obtain ⟨_,cur,hR⟩:=OwnC.row h
  obtain ⟨i0,hi0,hz0,hz1,hz2⟩:=info_parts infoChar
  have st:=slice_toC (some ⟨g,0,none⟩) n c i (by omega)
  have sf:=slice_fromC g n c j (by omega)
  obtain ⟨ad,had⟩ : ∃ ad:Addr,ad=(if c=j then ⟨g,0,none⟩ else ⟨g,j,none⟩):=⟨_,rfl⟩
  rw [← had] at sf
  obtain ⟨r,hr⟩ : ∃ r,r=n - j:=⟨_,rfl⟩
  obtain ⟨cr,hcr⟩ : ∃ r,r=c - j:=⟨_,rfl⟩
  rw [← hr,← hcr] at sf
  obtain ⟨news,hnews⟩ : ∃ news,news=cellsC (cs.drop j):=⟨_,rfl⟩
  have hnl:news.length=r:=by rw [hnews,len_cellsC,List.length_drop];omega
  have s1:Hid (news.length=r * 1):=Lib.hid (by rw [Nat.mul_one];exact hnl)
  have hat:∀ t,t<r→news[t]?=some (.int .i32 (cs.getD (j + t) 0)):=fun t ht=>by
   rw [hnews,cellsC_at (cs.drop j) t (by rw [List.length_drop];omega),getD_drop]
  have s2:Hid (∀ t u,news[t]?=some u→w.drew.cell? (ad.add t)=some u):=Lib.hid (by
   intro t u hu
   have ht:t<r:=by have:=(List.getElem?_eq_some_iff.1 hu).1;omega
   rw [hat t ht] at hu
   cases hu
   rw [had,if_neg (by omega),Addr.add_lit]
   exact (cell_of_row w g (j + t) _ _ _ hR.1).trans (hR.2.2.2.2.2.2 (j + t) (by omega)))
  have s3:Hid (∀ u ∈ news,u.oneCell'=true):=Lib.hid (by rw [hnews];exact cellsC_one _)
  have s4:Hid (∀ t,t<news.length→(w.drew.cell? ⟨g,0 + i * 1 + t,none⟩).isSome=true∧w.drew.frozen? ⟨g,0 + i * 1 + t,none⟩=false):=Lib.hid (fun t ht=>by
   rw [Nat.mul_one,Nat.zero_add]
   exact Rowc.cell (w:=w.drew) hR (by omega))
  obtain ⟨W1,hW1⟩ : ∃ W1,W1=w.drew.setCells g (0 + i * 1) news:=⟨_,rfl⟩
  obtain ⟨q,hq⟩ : ∃ q,q=i + r:=⟨_,rfl⟩
  obtain ⟨Y,hY⟩ : ∃ Y,Y=cs.take i ++ cs.drop j:=⟨_,rfl⟩
  have hYl:Y.length=q:=by rw [hY,List.length_append,List.length_take,List.length_drop];omega
  have hYJ:∀ x ∈ Y,Pl.J x:=fun x hx=>by
   rw [hY] at hx
   exact (List.mem_append.1 hx).elim (fun h=>hS.js x (List.mem_of_mem_take h)) (fun h=>hS.js x (List.mem_of_mem_drop h))
  have hYg:∀ t,Y.getD t 0=if t<i then cs.getD t 0 else cs.getD (j + (t - i)) 0:=fun t=>by
   rw [hY,getD_app,List.length_take,show min i cs.length=i by omega]
   split
   ·rename_i hlt;exact getD_take cs i t hlt
   ·exact getD_drop cs j (t - i)
  have hR1:Rowc W1 g q c Y (sets cur i news):=by
   rw [hW1,Nat.mul_one,Nat.zero_add]
   refine Rowc.sets_ (Rowc.drew hR) i news (by omega) (by omega) hYl hYJ (fun t h1 h2 h3=>?_) (fun t h1 h2=>?_)
   ·rw [hat (t - i) (by omega),hYg,if_neg (by omega)]
   ·rw [hR.2.2.2.2.2.2 t (by omega),hYg,if_pos (by omega)]
  have ht1:Tn (fun b=>b=g) w W1:=by rw [hW1];exact tn_sets news w w.drew _ (Tn.refl _ w).drew
  have sm:=slice_midC g q c q n (by omega) hle (by omega)
  have hcl:∀ ty,(Builtin.clear_ #[33] ty #[.slice (some ⟨g,q,none⟩) (n - q) (c - q)]).run Tryz.prog W1=.ok (.tuple #[]) (W1.setCells g q (List.replicate (n - q) (.int .i32 0))) :=
   fun ty=>Lib.run_clear_slice W1 _ _ ty _ Tryz.underlying33 zeroChar rfl rfl g q (n - q) (c - q) (by omega) (fun t ht=>(Rowc.cell hR1 (by omega)).1) (fun t ht=>(Rowc.cell hR1 (by omega)).2)
  obtain ⟨W2,hW2⟩ : ∃ W2,W2=W1.setCells g q (List.replicate (n - q) (.int .i32 0)):=⟨_,rfl⟩
  have hR2:Rowc W2 g q c Y (sets (sets cur i news) q (List.replicate (n - q) (.int .i32 0))):=by
   rw [hW2]
   refine Rowc.sets_ hR1 q _ (by rw [List.length_replicate];omega) (by omega) hYl hYJ (fun t h1 h2 h3=>by omega) (fun t h1 h2=>hR1.2.2.2.2.2.2 t h1)
  have ht2:Tn (fun b=>b=g) w W2:=by rw [hW2];exact tn_sets _ w W1 _ ht1
  rw [← hW2] at hcl
  have HO:=Lib.hid (show Turned w (.slice (some ⟨g,0,none⟩) n c) base q Y (.returned (.slice (some ⟨g,0,none⟩) q c)) W2 from
   ⟨some ⟨g,0,none⟩,c,rfl,Rowc.own hR2 hbg,ht2.more (fun b _ hb=>by rw [hb];rfl),fun b hb=>Or.inl hb⟩)
  have HW:=Lib.hid hW1
  have hqn:n - k=q:=by omega
  rw [hqn,← hY]
  have hroom:i + r≤c:=by omega
  have hic:i≤c:=by omega
  have HQ:=Lib.hid hq
  clear hr hq
  clear h hS hn hR hR1 hR2 ht1 ht2 hW1 hW2 hY hYl hYJ hYg hat hnl hnews had hqn hk0 hj hcr
  go_enter Tryz.func100,Tryz.ntmps100
  go_wp2_with fail
  go_region_law (refine step_append_room rfl (.tmp 22) (.tmp 25) 33 rfl 41 i0 1 Tryz.underlying33 hi0 hz1 g 0 i c (by simp [Act.eval,Act.put]) ad r cr news (by simp [Act.eval,Act.put]) s1.out s2.out s3.out hroom s4.out ?_;rw [← HW.out,← HQ.out])
  go_wp2_with fail
  go_ret
  exact HO.out
open Go.RowKit
theorem overlaps_own (w:World) (a b:Addr) (la ca lb cb:Nat) (hne:a.block≠b.block) (tA tB:TypeId) (kA kB:Nat) (hsa:w.shape? a.block=some (tA,kA)) (hsb:w.shape? b.block=some (tB,kB)) (hkA:kA≠0) (hkB:kB≠0)
  (hfb:w.frozen? b=false) (hfe:w.frozen? { block:=b.block,off:=kB }=false) :
  (Extern.SlicesOverlaps.overlaps #[33,33] #[4] #[.slice (some a) la ca,.slice (some b) lb cb]).run Tryz.prog w=.ok (.bool false) w:=by
 have hnb:(a.block != b.block)=true:=by simpa using hne
 have hnb':(a.block == b.block)=false:=by simpa using hne
 have hz:∀ w,(Go.sizeOf 41).run Tryz.prog w=.ok 1 w:=Tryz.sizeOf41
 change Sem.run Tryz.prog (α:=Value) (do
  let some t := (#[33, 33] : Array TypeId)[0]? | stuck "slices.overlaps: no parameter types"
  let .slice elem ← underlying t | stuck "slices.overlaps: slice type expected"
  let size ← sizeOf elem
  match (some a:Option Addr),(some b:Option Addr) with
  | some a,some b =>
   if la=0∨lb=0∨size=0 then pure (Value.bool false)
   else if a.block != b.block && (← frozen a) && (← frozen b) then unsupported .addressObserved
   else do
    if a.block != b.block then do
     noView a;noView b
     if ← mayBeOne a b then return Value.bool ((← choose (.extern "sameAddr.stringBytes" 2)) == 1)
    pure (Value.bool (a.block == b.block && a.off<b.off + lb * size && b.off<a.off + la * size))
  | _,_=>pure (Value.bool false)) w=_
 by_cases h0:la=0∨lb=0
 ·rcases h0 with h0 | h0 <;> simp [run_underlying Tryz.underlying33,hz,h0]
 ·cases kB with
  | zero=>exact absurd rfl hkB
  | succ kB =>
   cases kA with
   | zero=>exact absurd rfl hkA
   | succ kA =>
    have hz2:Sem.run Tryz.prog (Go.sizeOf 41) w=.ok 1 w:=hz w
    cases hfa:w.frozen? a <;> cases hfa2:w.frozen? { block:=a.block,off:=kA + 1 } <;>
     simp [run_underlying Tryz.underlying33,hz2,hnb,hnb',frozen,noView,viewAt,mayBeOne,stringish,shape,Sem.run,hsa,hsb,hfa,hfa2,hfb,hfe]
theorem shape_of_cell {w:World} {g o:Nat} {v:Value} (h:w.cell? ⟨g,o,none⟩=some v):∃ t k,w.shape? g=some (t,k)∧k≠0:=by
 unfold World.cell? at h
 unfold World.shape?
 simp only at h
 split at h
 ·rename_i c t fr he
  refine ⟨t,c.size,rfl,fun h0=>?_⟩
  have hc:c[o]?=some v:=by simpa using h
  have:=(Array.getElem?_eq_some_iff.1 hc).1
  omega
 ·cases h
theorem step_copy (w:World) {ops:Array Oper} {o:Oper} {a:Act} {K:Act→World→Prop} {Q:Exit→Act→World→Prop} {E:Prop} (hgd:o.guard=none) (d s:Operand)
  (ho:o.op=.call { callee:=.builtin .copy,args:=#[d,s],argTypes:=#[33,33] }) (v u:Value) (hd:a.eval d=v) (hs:a.eval s=u) {v':Value} {w':World}
  (hr:∀ ty,(Builtin.copy_ #[33,33] ty #[v,u]).run Tryz.prog w=.ok v' w') (h:K (a.put o.dst v') w'):if Region.wanted o (yielded ops a.tmps)=true then Oper.wp Tryz.prog o a w K Q else E:=by
 have hw:Region.wanted o (yielded ops a.tmps)=true:=by simp [Region.wanted,hgd]
 rw [if_pos hw]
 unfold Oper.wp execOp
 simp only [ho,resolve,invoke,builtin,Sem.run_bind,Sem.run_pure,Result.andThen_ok,List.map_toArray,List.map_cons,List.map_nil,hd,hs,hr]
 exact h
theorem copy_run {w:World} {g n c:Nat} {cs:List Int} {cur:Array Value} (h:Rowc w g n c cs cur) (o dl dc:Nat) (ad:Addr) (sl sc:Nat) (ds:List Int) (hsrc:∀ j,j<ds.length→w.cell? (ad.add j)=some (.int .i32 (ds.getD j 0))) (hl:ds.length=min sl dl) (ho:o + ds.length≤c) :
  ∀ ty,(Builtin.copy_ #[33,33] ty #[.slice (some ⟨g,o,none⟩) dl dc,.slice (some ad) sl sc]).run Tryz.prog w=.ok (goInt ds.length) (w.setCells g o (cellsC ds)):=by
 intro ty
 have hsz:(Tryz.prog.info? 41).map (·.size)=some 1:=by
  obtain ⟨i0,hi0,_,h1,_⟩:=info_parts infoChar
  rw [hi0];simp [h1]
 have:=run_copy_cells w 33 33 ty 41 g o dl dc ad sl sc (cellsC ds) Tryz.underlying33 hsz (by rw [len_cellsC];exact hl)
  (fun j v hj=>by
   have hjl:j<ds.length:=by have:=(List.getElem?_eq_some_iff.1 hj).1;rwa [len_cellsC] at this
   rw [cellsC_at ds j hjl] at hj
   cases hj
   exact hsrc j hjl)
  (fun j hj=>(Rowc.cell h (by rw [len_cellsC] at hj;omega)).1) (fun j hj=>(Rowc.cell h (by rw [len_cellsC] at hj;omega)).2) (cellsC_one ds)
 rwa [len_cellsC] at this
theorem slice_fromC' (g n c k:Nat) (hk:k≤n) (hc:k<c):∀ w',(Instr.sliceAt 33 (.slice (some ⟨g,0,none⟩) n c) (some (.int .i64 (k:Int))) none none).run Tryz.prog w'=.ok (.slice (some ⟨g,k,none⟩) (n - k) (c - k)) w':=by
 intro w'
 rw [slice_fromC g n c k hk,if_neg (by omega)]
theorem slice_fromV (A:Option Addr) (n c k:Nat) (hk:k≤n):∃ v,∀ w',(Instr.sliceAt 33 (.slice A n c) (some (.int .i64 (k:Int))) none none).run Tryz.prog w'=.ok v w':=by
 obtain ⟨i0,hi0,_⟩:=info_parts infoChar
 have hu:Tryz.prog.underlying 33=some (.slice (Tryz.prog.elem 33)):=by kernel_rfl
 have he:Tryz.prog.elem 33=41:=by kernel_rfl
 refine ⟨?_,fun w'=>?_⟩
 rotate_left
 ·rw [run_sliceAt_slice w' _ _ _ _ _ hu,run_slice_l w' 33 A n c hu .i64 (k:Int) (by omega) (by omega),he,run_sizeOf w' hi0]
  simp only [Result.andThen]
  rfl
set_option maxHeartbeats 1000000 in
theorem insC_room (w:World) (base g n c:Nat) (cs:List Int) (h:OwnC w base (.slice (some ⟨g,0,none⟩) n c) cs) (i:Nat) (hi:i<n) (vg vo m d:Nat) (ds:List Int) (hV:Crs w w.heap.size (some ⟨vg,vo,none⟩) m d ds) (hne:vg≠g) (hm:0<m) (hroom:n + m≤c) (hfit:n + m≤1000000) :
  Calls Tryz.prog 99 #[.slice (some ⟨g,0,none⟩) n c,.int .i64 (i:Int),.slice (some ⟨vg,vo,none⟩) m d] w (Turned w (.slice (some ⟨g,0,none⟩) n c) base (n + m) (cs.take i ++ ds ++ cs.drop i)):=by
 obtain ⟨hn,hS⟩:=h.crs
 have hcap:=hS.cap
 unfold maxLen at hcap
 obtain ⟨hbg,cur,hR⟩:=OwnC.row h
 have hdl:=hV.len
 have hvc:∀ t,t<m→w.cell? ⟨vg,vo + t,none⟩=some (.int .i32 (ds.getD t 0)):=by
  obtain ⟨g',o',e,_,hc⟩:=hV.at_ (i:=0) hm
  cases e
  exact hc
 have s1:=slice_fromC' g n c i (by omega) (by omega)
 have s2:=slice_toC (some ⟨g,0,none⟩) n c (n + m) hroom
 have s3:=slice_fromC' g (n + m) c (i + m) (by omega) (by omega)
 have s4:=slice_fromC' g (n + m) c i (by omega) (by omega)
 obtain ⟨tA,kA,hsa,hkA⟩:=shape_of_cell (hvc 0 hm)
 have hsb:w.shape? g=some (41,c):=by unfold World.shape?;rw [hR.1,← hR.2.1]
 have hov:∀ lb cb,(callFunc 183 #[.slice (some ⟨vg,vo,none⟩) m d,.slice (some ⟨g,i + m,none⟩) lb cb]).run Tryz.prog w=.ok (.value (.bool false)) w:=fun lb cb=>by
  rw [run_callFunc_extern Tryz.func183 (by kernel_rfl) (by kernel_rfl) (by kernel_rfl) (e:=Extern.SlicesOverlaps.overlaps #[33,33] #[4]) (by kernel_rfl),
   overlaps_own w ⟨vg,vo,none⟩ ⟨g,i + m,none⟩ m d lb cb hne tA _ kA c hsa hsb hkA (by omega) (frozen_of_row w g _ _ _ hR.1) (frozen_of_row w g _ _ _ hR.1)]
  rfl
 obtain ⟨X,hX⟩ : ∃ X,X=cs.drop i:=⟨_,rfl⟩
 have hXl:X.length=n - i:=by rw [hX,List.length_drop];omega
 have hXg:∀ t,X.getD t 0=cs.getD (i + t) 0:=fun t=>by rw [hX];exact getD_drop cs i t
 have hc1:=copy_run (w:=w.drew) (Rowc.drew hR) (i + m) (n + m - (i + m)) (c - (i + m)) ⟨g,i,none⟩ (n + m - i) (c - i) X (fun t ht=>by
  rw [Addr.add_lit,hXg]
  exact (cell_of_row w g (i + t) _ _ _ hR.1).trans (hR.2.2.2.2.2.2 (i + t) (by omega))) (by rw [hXl,Nat.min_def];split <;> omega) (by omega)
 obtain ⟨W1,hW1⟩ : ∃ W1,W1=w.drew.setCells g (i + m) (cellsC X):=⟨_,rfl⟩
 rw [← hW1] at hc1
 have ht1:Tn (fun b=>b=g) w W1:=by rw [hW1];exact tn_sets _ w w.drew _ (Tn.refl _ w).drew
 have hR1:Rowc W1 g i c (cs.take i) (sets cur (i + m) (cellsC X)):=by
  rw [hW1]
  refine Rowc.sets_ (Rowc.drew hR) (i + m) (cellsC X) (by rw [len_cellsC];omega) (by omega) (by rw [List.length_take];omega) (fun x hx=>hS.js x (List.mem_of_mem_take hx)) (fun t h1 h2 h3=>by omega) (fun t h1 _=>?_)
  rw [hR.2.2.2.2.2.2 t (by omega),getD_take cs i t h1]
 have hvw:vg<w.heap.size:=World.block_lt_of_cell? w _ (hvc 0 hm)
 have hc2:=copy_run hR1 i (n + m - i) (c - i) ⟨vg,vo,none⟩ m d ds (fun t ht=>by
  rw [Addr.add_lit]
  exact (ht1.cell (p:=⟨vg,vo + t,none⟩) hvw hne).trans (hvc t (by omega))) (by rw [hdl,Nat.min_def];split <;> omega) (by omega)
 obtain ⟨W2,hW2⟩ : ∃ W2,W2=W1.setCells g i (cellsC ds):=⟨_,rfl⟩
 rw [← hW2] at hc2
 have ht2:Tn (fun b=>b=g) w W2:=by rw [hW2];exact tn_sets _ w W1 _ ht1
 obtain ⟨Y,hY⟩ : ∃ Y,Y=cs.take i ++ ds ++ X:=⟨_,rfl⟩
 have hYl:Y.length=n + m:=by rw [hY,List.length_append,List.length_append,List.length_take];omega
 have hYJ:∀ x ∈ Y,Pl.J x:=fun x hx=>by
  rw [hY] at hx
  rcases List.mem_append.1 hx with hx | hx
  ·rcases List.mem_append.1 hx with hx | hx
   ·exact hS.js x (List.mem_of_mem_take hx)
   ·exact hV.js x hx
  ·rw [hX] at hx;exact hS.js x (List.mem_of_mem_drop hx)
 have hYg:∀ t,Y.getD t 0=if t<i then cs.getD t 0 else if t<i + m then ds.getD (t - i) 0 else cs.getD (t - m) 0:=fun t=>by
  rw [hY,List.append_assoc,getD_app,List.length_take,show min i cs.length=i by omega,getD_app,hdl]
  by_cases h1:t<i
  ·rw [if_pos h1,if_pos h1,getD_take cs i t h1]
  ·rw [if_neg h1,if_neg h1]
   by_cases h2:t<i + m
   ·rw [if_pos (by omega),if_pos h2]
   ·rw [if_neg (by omega),if_neg h2,hXg,show i + (t - i - m)=t - m by omega]
 have hR2:Rowc W2 g (n + m) c Y (sets (sets cur (i + m) (cellsC X)) i (cellsC ds)):=by
  rw [hW2]
  refine Rowc.sets_ hR1 i (cellsC ds) (by rw [len_cellsC];omega) hroom hYl hYJ (fun t h1 h2 h3=>?_) (fun t h1 h2=>?_)
  ·rw [len_cellsC] at h3
   rw [cellsC_at ds (t - i) (by omega),hYg,if_neg (by omega),if_pos (by omega)]
  ·rw [len_cellsC] at h2
   rw [hYg]
   by_cases h3:t<i
   ·rw [if_pos h3,sets_out _ _ _ _ (Or.inl (by omega))];exact hR.2.2.2.2.2.2 t (by omega)
   ·rw [if_neg h3,if_neg (by omega)]
    have h4:=sets_in (cellsC X) cur (i + m) (t - (i + m)) (by rw [len_cellsC];omega) (by rw [len_cellsC,hR.2.1];omega)
    rw [show i + m + (t - (i + m))=t by omega] at h4
    rw [h4,cellsC_at X _ (by omega),hXg,show i + (t - (i + m))=t - m by omega]
 have HO:=Lib.hid (show Turned w (.slice (some ⟨g,0,none⟩) n c) base (n + m) Y (.returned (.slice (some ⟨g,0,none⟩) (n + m) c)) W2 from
  ⟨some ⟨g,0,none⟩,c,rfl,Rowc.own hR2 hbg,ht2.more (fun b _ hb=>by rw [hb];rfl),fun b hb=>Or.inl hb⟩)
 rw [← hX,← hY]
 obtain ⟨xl,hxl⟩ : ∃ k,k=X.length:=⟨_,rfl⟩
 obtain ⟨dl,hdl2⟩ : ∃ k,k=ds.length:=⟨_,rfl⟩
 rw [← hxl] at hc1
 rw [← hdl2] at hc2
 have HC1:=Lib.hid hc1
 have HC2:=Lib.hid hc2
 have hm0:((m:Int) == 0)=false:=by rw [beq_eq_false_iff_ne];omega
 have hin:((i:Int) == (n:Int))=false:=by rw [beq_eq_false_iff_ne];omega
 have hw1:IntKind.i64.wrap ((i:Int) + (m:Int))=(i:Int) + (m:Int):=by rw [IntKind.wrap_i64];omega
 have hb1:(0:Int)≤(i:Int) + (m:Int):=by omega
 have hile:i≤n:=by omega
 have htn:((i:Int) + (m:Int)).toNat=i + m:=by omega
 have hb2:¬ (c=i + m):=by omega
 have hb3:(i:Int)≤(n:Int) + (m:Int):=by omega
 have hb4:¬ (c=i):=by omega
 clear hc1 hc2 h hn hS hR hdl hV hvc hsa hkA hsb hX hXl hXg ht1 hR1 hvw hW1 hW2 ht2 hY hYl hYJ hYg hR2 hxl hdl2
 go_enter Tryz.func99,Tryz.ntmps99
 go_wp2_with (simp only [hov])
 go_region_law (refine step_copy w.drew rfl (.tmp 73) (.tmp 76) (by rfl) _ _ (by simp [Act.eval,Act.put]) (by simp [Act.eval,Act.put]) HC1.out ?_)
 have hc2:=HC2.out
 go_wp2_with fail
 go_ret
 exact HO.out
end Go.Proofs.YtlgdcelgkiipaaaGreat
