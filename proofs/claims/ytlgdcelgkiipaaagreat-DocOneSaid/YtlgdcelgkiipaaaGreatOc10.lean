/-
  What is pushed, in plain words: which operations a past takes, what they grow, the length behind each. Conditions: those that each states.
  Operations in a row of the call's own, their units in other blocks: append, one of them undone. The row's type is left open. Conditions: those that each states.
  Contracts of slices.Grow of nil, slices.Concat, slices.Clone and t[k:] at rows of operations. Conditions: at most three parts, together at most a million; a row that is cloned of at most a million.
  Contracts of slices.Grow of nil, slices.Concat, slices.Clone and t[k:] at rows of ints. Conditions: at most three parts, together at most a million; a row that is cloned of at most a million.
-/
import Derived.Test.YtlgdcelgkiipaaaGreatOc09
import Derived.Lib.AppendZerosOnto
import Derived.Deep.RegionHeld3
import Derived.Lib.SlBytesConst
set_option maxRecDepth 100000
set_option linter.unusedVariables false
namespace Go.Proofs.YtlgdcelgkiipaaaGreat
open Pl (Un)
namespace Pl
theorem goL_ok:∀ (l:List Un) (n:Int),0≤n→(goL l n).2=0→(goL l n).1=n + growsL l∧0≤(goL l n).1
 | [],n,h,_=>by simp [goL,growsL,h]
 | u :: r,n,h,e=>by
  unfold goL at e ⊢
  by_cases hf:Fit u n
  ·rw [if_pos hf] at e ⊢
   have hg:0≤n + grows u.k:=by
    unfold grows
    by_cases h1:u.k=1
    ·rw [if_pos h1];omega
    ·rw [if_neg h1]
     by_cases h2:u.k=2
     ·rw [if_pos h2]
      have:=hf.2.2 h2
      have h0:0≤u.p:=by rcases hf.1 with h | h <;> omega
      omega
     ·rw [if_neg h2];omega
   have ih:=goL_ok r (n + grows u.k) hg e
   refine ⟨?_,ih.2⟩
   rw [ih.1]
   simp only [growsL,List.map_cons,List.sum_cons]
   omega
  ·rw [if_neg hf] at e
   exact absurd e (by decide)
theorem longL_ok {l:List Un} {n:Int} (e:(longL l n).2=0):(longL l n).1=n + growsL l∧0≤n + growsL l∧0≤n:=by
 unfold longL at e ⊢
 by_cases h:0≤n∧∀ u ∈ l,Okay u
 ·rw [if_pos h] at e ⊢
  have:=goL_ok l n h.1 e
  exact ⟨this.1,by rw [← this.1];exact this.2,h.1⟩
 ·rw [if_neg h] at e
  exact absurd e (by decide)
def total (L:List Op):Int:=(L.map (fun o=>growsL o.l)).sum
theorem total_nil:total []=0:=rfl
theorem total_append (a b:List Op):total (a ++ b)=total a + total b:=by simp [total]
theorem total_one (o:Op):total [o]=growsL o.l:=by simp [total]
def Takes (L:List Op) (n:Int) (o:Op):Prop:=(longL o.l (n + total L)).2=0
instance (L:List Op) (n:Int) (o:Op):Decidable (Takes L n o):=by unfold Takes;infer_instance
def Long0 (n:Int) (L:List Op):Prop:=∀ i,i≤L.length→0≤n + total (L.take i)
theorem Long0.nil {n:Int} (h:0≤n):Long0 n []:=fun i _=>by simp [total_nil,h]
theorem Long0.last {n:Int} {L:List Op} (h:Long0 n L):0≤n + total L:=by
 have:=h L.length (Nat.le_refl _)
 rwa [List.take_length] at this
theorem total_take {L:List Op} {i:Nat} (h:i<L.length):total (L.take (i + 1))=total (L.take i) + growsL (L.getD i default).l:=by
 rw [List.take_succ_eq_append_getElem h,total_append,total_one,List.getD_eq_getElem?_getD,List.getElem?_eq_getElem h]
 rfl
theorem total_drop (L:List Op) (k i:Nat):total (L.take k) + total ((L.drop k).take i)=total (L.take (k + i)):=by
 rw [← total_append,← List.take_add]
end Pl
open Go.RowKit
open Pl (Un)
structure OwnO (tO:TypeId) (w:World) (base:Nat) (F:Nat→Prop) (v:Value) (L:List OpV):Prop where
 row:OwnR encO 4 tO w base v L
 uns:∀ o ∈ L,UnsF w F o.A o.n o.c o.l
 apart:∀ g,v.ownBlock=some g→¬ F g
section
variable {tO:TypeId} {w w':World} {base:Nat} {F G T:Nat→Prop} {v:Value} {A:Option Addr} {n c:Nat} {L:List OpV}
theorem OwnO.nil_ (tO:TypeId) (w:World) (base:Nat) (F:Nat→Prop):OwnO tO w base F (.slice none 0 0) []:=⟨OwnR.nil_ _ _ _ _ _,(fun o ho=>by cases ho),(fun g h=>by cases h)⟩
theorem OwnO.then_ (h:OwnO tO w base F v L) (hb:Below w.heap.size w w'):OwnO tO w' base F v L:=⟨h.row.then_ hb,fun o ho=>(h.uns o ho).then_ hb,h.apart⟩
theorem OwnO.tn (h:OwnO tO w base F v L) (ht:Tn T w w') (hd:∀ b,F b→¬ T b) (hg:∀ g,v.ownBlock=some g→¬ T g):OwnO tO w' base F v L:=⟨h.row.tn ht hg,fun o ho=>(h.uns o ho).tn ht hd,h.apart⟩
theorem OwnO.more (h:OwnO tO w base F v L) (hg:∀ b,F b→G b) (ha:∀ g,v.ownBlock=some g→¬ G g):OwnO tO w base G v L:=⟨h.row,fun o ho=>(h.uns o ho).more hg,ha⟩
theorem OwnO.lower {base':Nat} (h:OwnO tO w base F v L) (hb:base'≤base):OwnO tO w base' F v L:=⟨h.row.lower hb,h.uns,h.apart⟩
theorem OwnO.shape (h:OwnO tO w base F v L):∃ A c,v=.slice A L.length c∧Rws encO w w.heap.size A L.length c L∧(∀ a,A=some a→base≤a.block):=h.row.shape encO_len
theorem OwnO.rws (h:OwnO tO w base F (.slice A n c) L):n=L.length∧Rws encO w w.heap.size A n c L:=h.row.rws encO_len
theorem grown_tn {row:Option Nat} (hg:w.grownBy w' row):Tn (fun b=>row=some b) w w':=(Tn.refl _ w).grown hg fun _ e=>.inr e
theorem UnsF.grown {row:Option Nat} {l:List Un} (h:UnsF w F A n c l) (hg:w.grownBy w' row) (hr:∀ g,row=some g→¬ F g):UnsF w' F A n c l:=h.tn (grown_tn hg) fun b hb e=>hr b e hb
theorem run_append_ops {t:TypeId} {z:Value} {bytes:Nat} (hu:Tryz.prog.underlying t=some (.slice tO)) (hinfo:(Tryz.prog.info? tO).map (fun i=>(i.zero,i.size,i.bytes))=some (some z,4,bytes)) (hzs:z.cells.size=4)
  (ty:TypeId) (hown:OwnO tO w base F (.slice A n c) L) (B:Nat) (A':Option Addr) (m c':Nat) (d:List OpV) (hsrc:Rws encO w B A' m c' d) (hd:∀ o ∈ d,UnsF w F o.A o.n o.c o.l) (hF:∀ b,F b→b<w.heap.size)
  (hmax:n + m≤maxLen) (hfit:(n + m) * bytes≤140737488355328) (hbase:base≤w.heap.size) :
  ∃ A2 c2 w',(Builtin.append_ #[t,t] ty #[.slice A n c,.slice A' m c']).run Tryz.prog w=.ok (.slice A2 (n + m) c2) w'∧OwnO tO w' base F (.slice A2 (n + m) c2) (L ++ d)∧w.grownBy w' (Value.ownBlock (.slice A n c)) ∧
   (Value.ownBlock (.slice A2 (n + m) c2)=Value.ownBlock (.slice A n c)∨Value.ownBlock (.slice A2 (n + m) c2)=some w.heap.size):=by
 obtain ⟨A2,c2,w1,hr,h2,h3,h4⟩:=run_append_rws encO_len encO_one hu hinfo hzs (by decide) w ty base A n c L hown.row B A' m c' d hsrc hmax hfit hbase
 refine ⟨A2,c2,w1,hr,⟨h2,fun o ho=>?_,fun g hg=>?_⟩,h3,h4⟩
 ·exact ((List.mem_append.1 ho).elim (hown.uns o) (hd o)).grown h3 hown.apart
 ·rcases h4 with e | e
  ·exact hown.apart g (by rw [← e];exact hg)
  ·rw [e] at hg
   obtain rfl:=Option.some.inj hg
   exact fun hf=>Nat.lt_irrefl _ (hF _ hf)
theorem OwnO.mark {g:Nat} (h:OwnO tO w base F (.slice (some ⟨g,0,none⟩) n c) L) (i:Nat) (hi:i<L.length) (b:Bool) :
  OwnO tO (w.setCell ⟨g,i * 4 + 3,none⟩ (.bool b)) base F (.slice (some ⟨g,0,none⟩) n c) (L.set i { L.getD i default with b:=b })∧w.grownBy (w.setCell ⟨g,i * 4 + 3,none⟩ (.bool b)) (some g):=by
 have hx:L[i]?=some (L.getD i default):=by rw [List.getD_eq_getElem?_getD,List.getElem?_eq_getElem hi];rfl
 have hs:=OwnR.set_ encO_len h.row i 3 (.bool b) (by decide) (L.getD i default) { L.getD i default with b:=b } hx rfl
 have hg:∀ g',some g=some g'→¬ F g':=fun g' e=>h.apart g' e
 refine ⟨⟨hs.1,fun o ho=>?_,h.apart⟩,hs.2⟩
 rcases List.mem_or_eq_of_mem_set ho with hm | rfl
 ·exact (h.uns o hm).grown hs.2 hg
 ·have:=(h.uns (L.getD i default) (by rw [List.getD_eq_getElem?_getD,List.getElem?_eq_getElem hi];exact List.getElem_mem _)).grown hs.2 hg
  exact this
end
open Go.RowKit
open Pl (Un)
structure PartR (α:Type) where
 A:Option Addr
 n:Nat
 c:Nat
 l:List α
instance {α:Type}:Inhabited (PartR α):=⟨⟨none,0,0,[]⟩⟩
section
variable {α:Type}
def PartR.val (q:PartR α):Value:=.slice q.A q.n q.c
def uptoR (P:List (PartR α)) (j:Nat):List α:=(P.take j).flatMap PartR.l
def PartsR (enc:α→List Value) (w:World) (g:Nat) (P:List (PartR α)):Prop :=
 g<w.heap.size∧∀ j,j<P.length→w.cell? ⟨g,j,none⟩=some (P.getD j default).val∧Rws enc w w.heap.size (P.getD j default).A (P.getD j default).n (P.getD j default).c (P.getD j default).l
theorem PartsR.then_ {enc:α→List Value} {w w':World} {g:Nat} {P:List (PartR α)} (h:PartsR enc w g P) (hb:Below w.heap.size w w'):PartsR enc w' g P :=
 ⟨Nat.lt_of_lt_of_le h.1 hb.size,fun j hj=>⟨(hb.cell (p:=⟨g,j,none⟩) h.1).trans (h.2 j hj).1,(h.2 j hj).2.then_ hb⟩⟩
theorem uptoR_succ {P:List (PartR α)} {j:Nat} (hj:j<P.length):uptoR P (j + 1)=uptoR P j ++ (P.getD j default).l:=by
 unfold uptoR
 rw [List.take_add_one,List.flatMap_append,List.getD_eq_getElem?_getD,List.getElem?_eq_getElem hj]
 simp
theorem uptoR_le (P:List (PartR α)) (j:Nat):(uptoR P j).length≤(uptoR P P.length).length:=by
 unfold uptoR
 rw [List.take_length]
 conv=>rhs;rw [← List.take_append_drop j P,List.flatMap_append,List.length_append]
 omega
def CRelR1 (w:World) (P:List (PartR α)) (s i:Value) (wr:World):Prop:=∃ j:Nat,i=.int .i64 (j:Int)∧s=.int .i64 ((uptoR P j).length:Int)∧j≤P.length∧Below w.heap.size w wr
def CRelR2 (enc:α→List Value) (k:Nat) (e:TypeId) (w:World) (P:List (PartR α)) (s i:Value) (wr:World):Prop:=∃ (j:Nat) (A:Option Addr) (c:Nat),i=.int .i64 (j:Int)∧s=.slice A (uptoR P j).length c∧j≤P.length∧Below w.heap.size w wr∧OwnR enc k e wr w.heap.size (.slice A (uptoR P j).length c) (uptoR P j)
def RetR (enc:α→List Value) (k:Nat) (t:TypeId) (w:World) (l:List α) (e:Ending) (w':World):Prop:=∃ A c,e=.returned (.slice A l.length c)∧OwnR enc k t w' w.heap.size (.slice A l.length c) l∧Below w.heap.size w w'
end
theorem infoO:(Tryz.prog.info? 45).map (fun i=>(i.zero,i.size,i.bytes))=some (some (.agg #[.int .u32 0,.int .u64 0,.slice none 0 0,.bool false]),4,48):=by kernel_rfl
theorem cellsO:Tryz.prog.cellsOf 45=4:=by kernel_rfl
theorem nil_toO:∀ w',(Instr.sliceAt 34 (.slice none 0 0) none (some (.int .i64 0)) none).run Tryz.prog w'=.ok (.slice none 0 0) w':=by
 intro w'
 obtain ⟨i0,hi0,_⟩:=info_parts infoO
 have hu:Tryz.prog.underlying 34=some (.slice (Tryz.prog.elem 34)):=by kernel_rfl
 have he:Tryz.prog.elem 34=45:=by kernel_rfl
 rw [run_sliceAt_slice w' _ _ _ _ _ hu,run_slice_h w' 34 none 0 0 hu .i64 0 (by omega) (by omega),he,run_sizeOf w' hi0]
 simp [Result.andThen,sliced]
theorem head_toO (g n c:Nat) (hc:0<c):∀ w',(Instr.sliceAt 34 (.slice (some ⟨g,0,none⟩) n c) none (some (.int .i64 0)) none).run Tryz.prog w'=.ok (.slice (some ⟨g,0,none⟩) 0 c) w':=by
 intro w'
 obtain ⟨i0,hi0,_⟩:=info_parts infoO
 have hu:Tryz.prog.underlying 34=some (.slice (Tryz.prog.elem 34)):=by kernel_rfl
 have he:Tryz.prog.elem 34=45:=by kernel_rfl
 rw [run_sliceAt_slice w' _ _ _ _ _ hu,run_slice_h w' 34 (some ⟨g,0,none⟩) n c hu .i64 0 (by omega) (by omega),he,run_sizeOf w' hi0]
 have h:¬ c=0:=by omega
 simp [Result.andThen,cellsO,sliced,h,Addr.add_lit]
theorem slice_fromO (A:Option Addr) (n c k:Nat) (hk:k≤n):∀ w',(Instr.sliceAt 34 (.slice A n c) (some (.int .i64 (k:Int))) none none).run Tryz.prog w'=.ok (.slice (if c=k then A else A.map (·.add (k * 4))) (n - k) (c - k)) w':=by
 intro w'
 obtain ⟨i0,hi,_⟩:=info_parts infoO
 have hu:Tryz.prog.underlying 34=some (.slice (Tryz.prog.elem 34)):=by kernel_rfl
 have he:Tryz.prog.elem 34=45:=by kernel_rfl
 rw [run_sliceAt_slice w' _ _ _ _ _ hu,run_slice_l w' 34 A n c hu .i64 (k:Int) (by omega) (by omega),he,run_sizeOf w' hi]
 simp only [Result.andThen,sliced,Int.toNat_natCast,cellsO]
set_option maxHeartbeats 400000 in
theorem growO_any (k:Nat) (hk:k≤1000000) (w:World) :
  Calls Tryz.prog 235 #[.slice none 0 0,.int .i64 (k:Int)] w fun e w'=>∃ A c,e=.returned (.slice A 0 c)∧OwnR encO 4 45 w' w.heap.size (.slice A 0 c) []∧Below w.heap.size w w':=by
 have hnil:=nil_toO
 by_cases h0:k=0
 ·subst h0
  go_enter Tryz.func235,Tryz.ntmps235
  go_wp2_with fail
  go_ret
  exact ⟨none,0,rfl,OwnR.nil_ _ _ _ _ _,Below.refl _ _⟩
 ·obtain ⟨i0,hi0,hz0,hzs,hzb⟩:=info_parts infoO
  obtain ⟨G,hG⟩ : ∃ G,G=grownCap w k 0 45:=⟨_,rfl⟩
  have hGn:k≤G:=by rw [hG];exact grownCap_ge w _ _ _
  have hGm:G≤maxLen:=by rw [hG];exact grownCap_le_maxLen w _ _ _ (by unfold maxLen;omega)
  obtain ⟨ROW,hROW⟩ : ∃ ROW:Array Value,ROW=(#[]:Array Value) ++ Builtin.zeroCells (Value.agg #[.int .u32 0,.int .u64 0,.slice none 0 0,.bool false]).cells k ++ Builtin.zeroCells (Value.agg #[.int .u32 0,.int .u64 0,.slice none 0 0,.bool false]).cells (G - k):=⟨_,rfl⟩
  have hRl:ROW.size=G * 4:=by
   have hzc:(Value.agg #[.int .u32 0,.int .u64 0,.slice none 0 0,.bool false]).cells.size=4:=by rfl
   rw [hROW]
   simp only [Array.size_append,size_zeroCells,hzc,Array.size_empty]
   omega
  obtain ⟨W1,hW1⟩ : ∃ W1,W1=w.drew.alloc (.cells ROW 45):=⟨_,rfl⟩
  have hrz:∀ ty,(Builtin.append_ #[34,3] ty #[.slice none 0 0,.int .i64 (k:Int)]).run Tryz.prog w=.ok (.slice (some ⟨w.heap.size,0,none⟩) k G) W1:=fun ty=>by
   have hold:(Builtin.firstCells i0.size 0 (.slice none 0 0)).run Tryz.prog w.drew=.ok ([]:List Value).toArray w.drew:=by rw [hzs];rfl
   have:=Lib.run_append_grow_zeros w 34 3 ty 45 i0 _ .i64 .i64 Tryz.underlying34 Tryz.underlying3 hi0 hz0 none 0 0 [] hold k (by omega) (by omega) (by omega) (by omega) (by rw [hzb];omega) (by rw [hzb,show 0 + k=k by omega];exact growslice_fits (by omega) (by omega))
   rw [show 0 + k=k by omega] at this
   rw [hW1,hROW,hG]
   exact this
  have hR1:OwnR encO 4 45 W1 w.heap.size (.slice (some ⟨w.heap.size,0,none⟩) 0 G) []:=⟨by simp [cellsR],Or.inr ⟨w.heap.size,G,ROW,rfl,Nat.le_refl _,by rw [hW1];exact heap_alloc_new w.drew _,Nat.zero_le _,hGm,hRl,by simp [cellsR]⟩⟩
  have hb1:Below w.heap.size w W1:=by rw [hW1];exact below_alloc (Below.refl _ w).drew _
  have HO:=Lib.hid hR1
  have HB:=Lib.hid hb1
  have hto:=head_toO w.heap.size k G (by omega)
  have HRZ:=Lib.hid hrz
  clear hrz
  have z0:decide ((0:Int)<(k:Int))=true:=decide_eq_true (by omega)
  have z1:decide ((k:Int)<(0:Int))=false:=decide_eq_false (by omega)
  have hwr:wrap64 (k:Int)=(k:Int):=by unfold wrap64;omega
  clear hR1 hb1 hW1 hROW hRl hGm hGn hG hz0 hi0 hzs hzb
  go_enter Tryz.func235,Tryz.ntmps235
  go_wp2_with (at_builtin;refine Lib.wpList_append_run w (by rfl) (.tmp 20) (.tmp 21) 34 3 (by rfl) (.slice none 0 0) (.int .i64 (k:Int)) (by rfl) (by rfl) _ _ (HRZ.out _) ?_)
  go_ret
  exact ⟨_,_,rfl,HO.out,HB.out⟩
set_option maxHeartbeats 400000 in
theorem concatO_any (w:World) (g c:Nat) (P:List (PartR OpV)) (hP:PartsR encO w g P) (h3:P.length≤3) (hr:(uptoR P P.length).length≤1000000) :
  Calls Tryz.prog 209 #[.slice (some ⟨g,0,none⟩) P.length c] w (RetR encO 4 45 w (uptoR P P.length)):=by
 obtain ⟨N,hN⟩ : ∃ N,N=P.length:=⟨_,rfl⟩
 obtain ⟨T,hT⟩ : ∃ T,T=(uptoR P N).length:=⟨_,rfl⟩
 have HP:=Lib.hid hP
 have HN:=Lib.hid hN
 have HT:=Lib.hid hT
 rw [← hN] at h3 hr ⊢
 rw [← hT] at hr
 have HGW:=fun w=>Lib.hid (growO_any T hr w)
 clear hP hN hT
 go_enter Tryz.func209,Tryz.ntmps209
 go_wp2_with fail
 go_loopw [3,11] (fun s i wr=>CRelR1 w P s i wr) (fun _ i _=>N - (intOf i).toNat)
 case atStart=>exact ⟨0,rfl,rfl,Nat.zero_le _,Below.refl _ _⟩
 case round =>
  obtain ⟨j,rfl,rfl,hj,hb⟩:=hrel
  have HB:=Lib.hid hb
  rw [← HN.out] at hj
  by_cases hlt:j<N
  ·have hlt':j<P.length:=by rw [← HN.out];exact hlt
   obtain ⟨hcell,hcr⟩:=(HP.out.then_ hb).2 j hlt'
   have hsum:(uptoR P (j + 1)).length=(uptoR P j).length + (P.getD j default).n:=by rw [uptoR_succ hlt',List.length_append,hcr.len]
   have hle1:=uptoR_le P (j + 1)
   rw [← HN.out,← HT.out] at hle1
   obtain ⟨⟨A1,n1,c1,l1⟩,hq⟩ : ∃ q,q=P.getD j default:=⟨_,rfl⟩
   rw [← hq] at hcell hcr hsum
   unfold PartR.val at hcell
   simp only at hcell hcr hsum
   obtain ⟨S,hS⟩ : ∃ S,S=(uptoR P j).length:=⟨_,rfl⟩
   rw [← hS] at hsum ⊢
   have HS:=Lib.hid hsum
   have hw1:wrap64 ((S:Int) + (n1:Int))=(S:Int) + (n1:Int):=by unfold wrap64;omega
   have hneg:decide ((S:Int) + (n1:Int)<0)=false:=decide_eq_false (by omega)
   have z0:(0:Int)≤(j:Int):=by omega
   have z1:(j:Int)<(N:Int):=by omega
   clear hcr hb hq hle1 hsum hS hlt'
   go_wp2_with fail
   go_roundw
   case rel=>exact ⟨j + 1,by go_num,by rw [HS.out];go_num,by have:=HN.out;omega,HB.out⟩
   case measure=>simp [intOf];omega
  ·have hjN:j=N:=by omega
   subst hjN
   clear hb hlt
   rw [← HT.out]
   go_wp2_with fail
   refine (HGW _).out.mono ?_
   rintro e w2 ⟨A0,c0,rfl,hO,hb2⟩
   have HB2:=Lib.hid (HB.out.trans (hb2.mono HB.out.size))
   have HO2:=Lib.hid (hO.lower (base':=w.heap.size) HB.out.size)
   clear hO hb2
   go_wp2_with fail
   go_loopw [6,27] (fun s i wr=>CRelR2 encO 4 45 w P s i wr) (fun _ i _=>j - (intOf i).toNat)
   case atStart=>exact ⟨0,A0,c0,rfl,rfl,Nat.zero_le _,HB2.out,HO2.out⟩
   case round =>
    obtain ⟨i,A,cc,rfl,rfl,hi,hbr,hOr⟩:=hrel
    have HBR:=Lib.hid hbr
    have HOR:=Lib.hid hOr
    rw [← HN.out] at hi
    clear hOr
    by_cases hlt:i<j
    ·have hlt':i<P.length:=by rw [← HN.out];exact hlt
     obtain ⟨hcell,hcr⟩:=(HP.out.then_ hbr).2 i hlt'
     have hsum:(uptoR P (i + 1)).length=(uptoR P i).length + (P.getD i default).n:=by rw [uptoR_succ hlt',List.length_append,hcr.len]
     have hle1:=uptoR_le P (i + 1)
     rw [← HN.out,← HT.out] at hle1
     have HNX:=Lib.hid (uptoR_succ hlt')
     obtain ⟨⟨A1,n1,c1,l1⟩,hq⟩ : ∃ q,q=P.getD i default:=⟨_,rfl⟩
     rw [← hq] at hcell hcr hsum HNX
     unfold PartR.val at hcell
     simp only at hcell hcr hsum HNX
     have HCR:=Lib.hid hcr
     obtain ⟨S,hS⟩ : ∃ S,S=(uptoR P i).length:=⟨_,rfl⟩
     rw [← hS] at hsum HOR ⊢
     have HS:=Lib.hid hsum
     have hfit:(S + n1) * 48≤140737488355328:=by omega
     have hmx:S + n1≤maxLen:=by unfold maxLen;omega
     have z0:(0:Int)≤(i:Int):=by omega
     have z1:(i:Int)<(j:Int):=by omega
     clear hcr hbr hq hle1 hsum hS hlt'
     go_wp2_with (at_builtin;refine wpList_append_rws encO_len encO_one Tryz.underlying34 infoO (by decide) (by decide) wr (by rfl) (.tmp 31) (.tmp 32) (by rfl) w.heap.size _ _ _ _ (by rfl) HOR.out wr.heap.size _ _ _ l1 (by rfl) HCR.out hmx hfit HBR.out.size ?_;intro A2 cc2 w4 hO4 hg4 _)
     have HB4:=Lib.hid (OwnR.grownBelow HOR.out hg4 HBR.out HBR.out.size)
     rw [← HNX.out] at hO4
     have HO4:=Lib.hid hO4
     clear hO4 hg4
     go_wp2_with fail
     go_roundw
     case rel=>exact ⟨i + 1,A2,cc2,by go_num,by rw [HS.out],by have:=HN.out;omega,HB4.out,by rw [HS.out];exact HO4.out⟩
     case measure=>simp [intOf];omega
    ·have hjN:i=j:=by omega
     subst hjN
     clear hbr hlt
     go_wp2_with fail
     go_ret
     exact ⟨_,_,rfl,HOR.out,HBR.out⟩
theorem eql_nilO (A:Option Addr) (n c:Nat) (w:World):(binOp .eql 34 (.slice A n c) (.slice none 0 0)).run Tryz.prog w=.ok (.bool A.isNone) w:=Lib.run_eql_slice_nil w _ _ A n c 0 0 Tryz.underlying34
theorem litO (w:World) (l:List OpV) (hl:l.length≤maxLen):OwnR encO 4 45 (w.alloc (.cells (cellsR encO l).toArray 45)) w.heap.size (.slice (some ⟨w.heap.size,0,none⟩) l.length l.length) l:=OwnR.lit encO_len w l hl
set_option maxHeartbeats 400000 in
theorem cloneO_any (A:Option Addr) (n c:Nat) (l:List OpV) (w:World) (h1:Rws encO w w.heap.size A n c l) (hr:n≤1000000) :
  Calls Tryz.prog 187 #[.slice A n c] w (RetR encO 4 45 w l):=by
 cases A with
 | none =>
  have hc:c=0:=h1.nil_ rfl
  have hn:n=0:=by have:=h1.le;omega
  subst hc hn
  obtain rfl:l=[]:=List.eq_nil_of_length_eq_zero h1.len
  have q:=eql_nilO none 0 0
  go_enter Tryz.func187,Tryz.ntmps187
  go_wp2_with fail
  go_ret
  exact ⟨none,0,rfl,OwnR.nil_ _ _ _ _ _,Below.refl _ _⟩
 | some ad =>
  have q:=eql_nilO (some ad) n c
  have hb1:Below w.heap.size w (w.alloc (.cells #[] 45)):=(Below.refl _ _).alloc (Nat.le_refl _) _
  have HB:=Lib.hid (h1.below hb1 (Nat.le_refl _))
  have HV:=Lib.hid (show OwnR encO 4 45 (w.alloc (.cells #[] 45)) w.heap.size (.slice (some ⟨w.heap.size,0,none⟩) 0 0) [] from litO w [] (by simp))
  have HL:=Lib.hid h1.len
  have HB1:=Lib.hid hb1
  clear h1 hb1
  go_enter Tryz.func187,Tryz.ntmps187
  go_wp2_with (at_builtin;refine wpList_append_rws encO_len encO_one Tryz.underlying34 infoO (by decide) (by decide) (w.alloc (.cells #[] 45)) rfl (.tmp 5) (.tmp 6) rfl w.heap.size _ _ _ [] (by rfl) HV.out w.heap.size _ _ _ l (by rfl) HB.out (by unfold maxLen;omega) (by omega) (by simp) ?_)
  intro A2 c2 w2 hV2 hg2 hx2
  have hb2:=OwnR.grownBelow HV.out hg2 HB1.out (by simp)
  clear hx2 hg2
  have hV2:OwnR encO 4 45 w2 w.heap.size (.slice A2 n c2) l:=by simpa using hV2
  have H2:=Lib.hid (And.intro hV2 hb2)
  clear hV2 hb2
  go_wp2_with fail
  go_ret
  refine ⟨A2,c2,?_,?_,H2.out.2⟩
  ·rw [HL.out];simp
  ·rw [HL.out];exact H2.out.1
open Go.RowKit
open Pl (Un)
def encI (x:Int):List Value:=[.int .i64 x]
theorem encI_len (x:Int):(encI x).length=1:=rfl
theorem encI_one (x:Int):∀ v ∈ encI x,v.oneCell'=true:=by
 intro v hv
 simp only [encI,List.mem_cons,List.not_mem_nil,or_false] at hv
 rw [hv];rfl
theorem infoI:(Tryz.prog.info? 3).map (fun i=>(i.zero,i.size,i.bytes))=some (some (.int .i64 0),1,8):=by kernel_rfl
theorem cellsI:Tryz.prog.cellsOf 3=1:=by kernel_rfl
theorem nil_toI:∀ w',(Instr.sliceAt 164 (.slice none 0 0) none (some (.int .i64 0)) none).run Tryz.prog w'=.ok (.slice none 0 0) w':=by
 intro w'
 obtain ⟨i0,hi0,_⟩:=info_parts infoI
 have hu:Tryz.prog.underlying 164=some (.slice (Tryz.prog.elem 164)):=by kernel_rfl
 have he:Tryz.prog.elem 164=3:=by kernel_rfl
 rw [run_sliceAt_slice w' _ _ _ _ _ hu,run_slice_h w' 164 none 0 0 hu .i64 0 (by omega) (by omega),he,run_sizeOf w' hi0]
 simp [Result.andThen,sliced]
theorem head_toI (g n c:Nat) (hc:0<c):∀ w',(Instr.sliceAt 164 (.slice (some ⟨g,0,none⟩) n c) none (some (.int .i64 0)) none).run Tryz.prog w'=.ok (.slice (some ⟨g,0,none⟩) 0 c) w':=by
 intro w'
 obtain ⟨i0,hi0,_⟩:=info_parts infoI
 have hu:Tryz.prog.underlying 164=some (.slice (Tryz.prog.elem 164)):=by kernel_rfl
 have he:Tryz.prog.elem 164=3:=by kernel_rfl
 rw [run_sliceAt_slice w' _ _ _ _ _ hu,run_slice_h w' 164 (some ⟨g,0,none⟩) n c hu .i64 0 (by omega) (by omega),he,run_sizeOf w' hi0]
 have h:¬ c=0:=by omega
 simp [Result.andThen,cellsI,sliced,h,Addr.add_lit]
theorem slice_fromI (A:Option Addr) (n c k:Nat) (hk:k≤n):∀ w',(Instr.sliceAt 164 (.slice A n c) (some (.int .i64 (k:Int))) none none).run Tryz.prog w'=.ok (.slice (if c=k then A else A.map (·.add (k * 1))) (n - k) (c - k)) w':=by
 intro w'
 obtain ⟨i0,hi,_⟩:=info_parts infoI
 have hu:Tryz.prog.underlying 164=some (.slice (Tryz.prog.elem 164)):=by kernel_rfl
 have he:Tryz.prog.elem 164=3:=by kernel_rfl
 rw [run_sliceAt_slice w' _ _ _ _ _ hu,run_slice_l w' 164 A n c hu .i64 (k:Int) (by omega) (by omega),he,run_sizeOf w' hi]
 simp only [Result.andThen,sliced,Int.toNat_natCast,cellsI]
set_option maxHeartbeats 400000 in
theorem growI_any (k:Nat) (hk:k≤1000000) (w:World) :
  Calls Tryz.prog 236 #[.slice none 0 0,.int .i64 (k:Int)] w fun e w'=>∃ A c,e=.returned (.slice A 0 c)∧OwnR encI 1 3 w' w.heap.size (.slice A 0 c) []∧Below w.heap.size w w':=by
 have hnil:=nil_toI
 by_cases h0:k=0
 ·subst h0
  go_enter Tryz.func236,Tryz.ntmps236
  go_wp2_with fail
  go_ret
  exact ⟨none,0,rfl,OwnR.nil_ _ _ _ _ _,Below.refl _ _⟩
 ·obtain ⟨i0,hi0,hz0,hzs,hzb⟩:=info_parts infoI
  obtain ⟨G,hG⟩ : ∃ G,G=grownCap w k 0 3:=⟨_,rfl⟩
  have hGn:k≤G:=by rw [hG];exact grownCap_ge w _ _ _
  have hGm:G≤maxLen:=by rw [hG];exact grownCap_le_maxLen w _ _ _ (by unfold maxLen;omega)
  obtain ⟨ROW,hROW⟩ : ∃ ROW:Array Value,ROW=(#[]:Array Value) ++ Builtin.zeroCells (Value.int .i64 0).cells k ++ Builtin.zeroCells (Value.int .i64 0).cells (G - k):=⟨_,rfl⟩
  have hRl:ROW.size=G * 1:=by
   have hzc:(Value.int .i64 0).cells.size=1:=by rfl
   rw [hROW]
   simp only [Array.size_append,size_zeroCells,hzc,Array.size_empty]
   omega
  obtain ⟨W1,hW1⟩ : ∃ W1,W1=w.drew.alloc (.cells ROW 3):=⟨_,rfl⟩
  have hrz:∀ ty,(Builtin.append_ #[164,3] ty #[.slice none 0 0,.int .i64 (k:Int)]).run Tryz.prog w=.ok (.slice (some ⟨w.heap.size,0,none⟩) k G) W1:=fun ty=>by
   have hold:(Builtin.firstCells i0.size 0 (.slice none 0 0)).run Tryz.prog w.drew=.ok ([]:List Value).toArray w.drew:=by rw [hzs];rfl
   have:=Lib.run_append_grow_zeros w 164 3 ty 3 i0 _ .i64 .i64 Tryz.underlying164 Tryz.underlying3 hi0 hz0 none 0 0 [] hold k (by omega) (by omega) (by omega) (by omega) (by rw [hzb];omega) (by rw [hzb,show 0 + k=k by omega];exact growslice_fits (by omega) (by omega))
   rw [show 0 + k=k by omega] at this
   rw [hW1,hROW,hG]
   exact this
  have hR1:OwnR encI 1 3 W1 w.heap.size (.slice (some ⟨w.heap.size,0,none⟩) 0 G) []:=⟨by simp [cellsR],Or.inr ⟨w.heap.size,G,ROW,rfl,Nat.le_refl _,by rw [hW1];exact heap_alloc_new w.drew _,Nat.zero_le _,hGm,hRl,by simp [cellsR]⟩⟩
  have hb1:Below w.heap.size w W1:=by rw [hW1];exact below_alloc (Below.refl _ w).drew _
  have HO:=Lib.hid hR1
  have HB:=Lib.hid hb1
  have hto:=head_toI w.heap.size k G (by omega)
  have HRZ:=Lib.hid hrz
  clear hrz
  have z0:decide ((0:Int)<(k:Int))=true:=decide_eq_true (by omega)
  have z1:decide ((k:Int)<(0:Int))=false:=decide_eq_false (by omega)
  have hwr:wrap64 (k:Int)=(k:Int):=by unfold wrap64;omega
  clear hR1 hb1 hW1 hROW hRl hGm hGn hG hz0 hi0 hzs hzb
  go_enter Tryz.func236,Tryz.ntmps236
  go_wp2_with (at_builtin;refine Lib.wpList_append_run w (by rfl) (.tmp 20) (.tmp 21) 164 3 (by rfl) (.slice none 0 0) (.int .i64 (k:Int)) (by rfl) (by rfl) _ _ (HRZ.out _) ?_)
  go_ret
  exact ⟨_,_,rfl,HO.out,HB.out⟩
set_option maxHeartbeats 400000 in
theorem concatI_any (w:World) (g c:Nat) (P:List (PartR Int)) (hP:PartsR encI w g P) (h3:P.length≤3) (hr:(uptoR P P.length).length≤1000000) :
  Calls Tryz.prog 210 #[.slice (some ⟨g,0,none⟩) P.length c] w (RetR encI 1 3 w (uptoR P P.length)):=by
 obtain ⟨N,hN⟩ : ∃ N,N=P.length:=⟨_,rfl⟩
 obtain ⟨T,hT⟩ : ∃ T,T=(uptoR P N).length:=⟨_,rfl⟩
 have HP:=Lib.hid hP
 have HN:=Lib.hid hN
 have HT:=Lib.hid hT
 rw [← hN] at h3 hr ⊢
 rw [← hT] at hr
 have HGW:=fun w=>Lib.hid (growI_any T hr w)
 clear hP hN hT
 go_enter Tryz.func210,Tryz.ntmps210
 go_wp2_with fail
 go_loopw [3,11] (fun s i wr=>CRelR1 w P s i wr) (fun _ i _=>N - (intOf i).toNat)
 case atStart=>exact ⟨0,rfl,rfl,Nat.zero_le _,Below.refl _ _⟩
 case round =>
  obtain ⟨j,rfl,rfl,hj,hb⟩:=hrel
  have HB:=Lib.hid hb
  rw [← HN.out] at hj
  by_cases hlt:j<N
  ·have hlt':j<P.length:=by rw [← HN.out];exact hlt
   obtain ⟨hcell,hcr⟩:=(HP.out.then_ hb).2 j hlt'
   have hsum:(uptoR P (j + 1)).length=(uptoR P j).length + (P.getD j default).n:=by rw [uptoR_succ hlt',List.length_append,hcr.len]
   have hle1:=uptoR_le P (j + 1)
   rw [← HN.out,← HT.out] at hle1
   obtain ⟨⟨A1,n1,c1,l1⟩,hq⟩ : ∃ q,q=P.getD j default:=⟨_,rfl⟩
   rw [← hq] at hcell hcr hsum
   unfold PartR.val at hcell
   simp only at hcell hcr hsum
   obtain ⟨S,hS⟩ : ∃ S,S=(uptoR P j).length:=⟨_,rfl⟩
   rw [← hS] at hsum ⊢
   have HS:=Lib.hid hsum
   have hw1:wrap64 ((S:Int) + (n1:Int))=(S:Int) + (n1:Int):=by unfold wrap64;omega
   have hneg:decide ((S:Int) + (n1:Int)<0)=false:=decide_eq_false (by omega)
   have z0:(0:Int)≤(j:Int):=by omega
   have z1:(j:Int)<(N:Int):=by omega
   clear hcr hb hq hle1 hsum hS hlt'
   go_wp2_with fail
   go_roundw
   case rel=>exact ⟨j + 1,by go_num,by rw [HS.out];go_num,by have:=HN.out;omega,HB.out⟩
   case measure=>simp [intOf];omega
  ·have hjN:j=N:=by omega
   subst hjN
   clear hb hlt
   rw [← HT.out]
   go_wp2_with fail
   refine (HGW _).out.mono ?_
   rintro e w2 ⟨A0,c0,rfl,hO,hb2⟩
   have HB2:=Lib.hid (HB.out.trans (hb2.mono HB.out.size))
   have HO2:=Lib.hid (hO.lower (base':=w.heap.size) HB.out.size)
   clear hO hb2
   go_wp2_with fail
   go_loopw [6,27] (fun s i wr=>CRelR2 encI 1 3 w P s i wr) (fun _ i _=>j - (intOf i).toNat)
   case atStart=>exact ⟨0,A0,c0,rfl,rfl,Nat.zero_le _,HB2.out,HO2.out⟩
   case round =>
    obtain ⟨i,A,cc,rfl,rfl,hi,hbr,hOr⟩:=hrel
    have HBR:=Lib.hid hbr
    have HOR:=Lib.hid hOr
    rw [← HN.out] at hi
    clear hOr
    by_cases hlt:i<j
    ·have hlt':i<P.length:=by rw [← HN.out];exact hlt
     obtain ⟨hcell,hcr⟩:=(HP.out.then_ hbr).2 i hlt'
     have hsum:(uptoR P (i + 1)).length=(uptoR P i).length + (P.getD i default).n:=by rw [uptoR_succ hlt',List.length_append,hcr.len]
     have hle1:=uptoR_le P (i + 1)
     rw [← HN.out,← HT.out] at hle1
     have HNX:=Lib.hid (uptoR_succ hlt')
     obtain ⟨⟨A1,n1,c1,l1⟩,hq⟩ : ∃ q,q=P.getD i default:=⟨_,rfl⟩
     rw [← hq] at hcell hcr hsum HNX
     unfold PartR.val at hcell
     simp only at hcell hcr hsum HNX
     have HCR:=Lib.hid hcr
     obtain ⟨S,hS⟩ : ∃ S,S=(uptoR P i).length:=⟨_,rfl⟩
     rw [← hS] at hsum HOR ⊢
     have HS:=Lib.hid hsum
     have hfit:(S + n1) * 8≤140737488355328:=by omega
     have hmx:S + n1≤maxLen:=by unfold maxLen;omega
     have z0:(0:Int)≤(i:Int):=by omega
     have z1:(i:Int)<(j:Int):=by omega
     clear hcr hbr hq hle1 hsum hS hlt'
     go_wp2_with (at_builtin;refine wpList_append_rws encI_len encI_one Tryz.underlying164 infoI (by decide) (by decide) wr (by rfl) (.tmp 31) (.tmp 32) (by rfl) w.heap.size _ _ _ _ (by rfl) HOR.out wr.heap.size _ _ _ l1 (by rfl) HCR.out hmx hfit HBR.out.size ?_;intro A2 cc2 w4 hO4 hg4 _)
     have HB4:=Lib.hid (OwnR.grownBelow HOR.out hg4 HBR.out HBR.out.size)
     rw [← HNX.out] at hO4
     have HO4:=Lib.hid hO4
     clear hO4 hg4
     go_wp2_with fail
     go_roundw
     case rel=>exact ⟨i + 1,A2,cc2,by go_num,by rw [HS.out],by have:=HN.out;omega,HB4.out,by rw [HS.out];exact HO4.out⟩
     case measure=>simp [intOf];omega
    ·have hjN:i=j:=by omega
     subst hjN
     clear hbr hlt
     go_wp2_with fail
     go_ret
     exact ⟨_,_,rfl,HOR.out,HBR.out⟩
theorem eql_nilI (A:Option Addr) (n c:Nat) (w:World):(binOp .eql 164 (.slice A n c) (.slice none 0 0)).run Tryz.prog w=.ok (.bool A.isNone) w:=Lib.run_eql_slice_nil w _ _ A n c 0 0 Tryz.underlying164
theorem litI (w:World) (l:List Int) (hl:l.length≤maxLen):OwnR encI 1 3 (w.alloc (.cells (cellsR encI l).toArray 3)) w.heap.size (.slice (some ⟨w.heap.size,0,none⟩) l.length l.length) l:=OwnR.lit encI_len w l hl
set_option maxHeartbeats 400000 in
theorem cloneI_any (A:Option Addr) (n c:Nat) (l:List Int) (w:World) (h1:Rws encI w w.heap.size A n c l) (hr:n≤1000000) :
  Calls Tryz.prog 137 #[.slice A n c] w (RetR encI 1 3 w l):=by
 cases A with
 | none =>
  have hc:c=0:=h1.nil_ rfl
  have hn:n=0:=by have:=h1.le;omega
  subst hc hn
  obtain rfl:l=[]:=List.eq_nil_of_length_eq_zero h1.len
  have q:=eql_nilI none 0 0
  go_enter Tryz.func137,Tryz.ntmps137
  go_wp2_with fail
  go_ret
  exact ⟨none,0,rfl,OwnR.nil_ _ _ _ _ _,Below.refl _ _⟩
 | some ad =>
  have q:=eql_nilI (some ad) n c
  have hb1:Below w.heap.size w (w.alloc (.cells #[] 3)):=(Below.refl _ _).alloc (Nat.le_refl _) _
  have HB:=Lib.hid (h1.below hb1 (Nat.le_refl _))
  have HV:=Lib.hid (show OwnR encI 1 3 (w.alloc (.cells #[] 3)) w.heap.size (.slice (some ⟨w.heap.size,0,none⟩) 0 0) [] from litI w [] (by simp))
  have HL:=Lib.hid h1.len
  have HB1:=Lib.hid hb1
  clear h1 hb1
  go_enter Tryz.func137,Tryz.ntmps137
  go_wp2_with (at_builtin;refine wpList_append_rws encI_len encI_one Tryz.underlying164 infoI (by decide) (by decide) (w.alloc (.cells #[] 3)) rfl (.tmp 5) (.tmp 6) rfl w.heap.size _ _ _ [] (by rfl) HV.out w.heap.size _ _ _ l (by rfl) HB.out (by unfold maxLen;omega) (by omega) (by simp) ?_)
  intro A2 c2 w2 hV2 hg2 hx2
  have hb2:=OwnR.grownBelow HV.out hg2 HB1.out (by simp)
  clear hx2 hg2
  have hV2:OwnR encI 1 3 w2 w.heap.size (.slice A2 n c2) l:=by simpa using hV2
  have H2:=Lib.hid (And.intro hV2 hb2)
  clear hV2 hb2
  go_wp2_with fail
  go_ret
  refine ⟨A2,c2,?_,?_,H2.out.2⟩
  ·rw [HL.out];simp
  ·rw [HL.out];exact H2.out.1
end Go.Proofs.YtlgdcelgkiipaaaGreat
