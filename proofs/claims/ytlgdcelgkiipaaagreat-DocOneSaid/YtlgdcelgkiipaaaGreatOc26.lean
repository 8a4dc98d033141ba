/-
  Layer 5 (piece) in plain words: a text as places of two buffers, pieces as what a row of places makes when neighbours that follow each other are one; how many pieces there are; what 'part' hands on. Nothing of the program is named here. No conditions but those that each lemma states.
  A table in memory ('Tb'): its struct, its second buffer, its pieces; what keeps it. Contracts of the small functions of piece: none, Len, reach, follows, and of slices.Clone at code points and at pieces. Conditions: the table is one, or none; the buffers have at most 2^30 code points.
-/
import Derived.Test.YtlgdcelgkiipaaaGreatOc00
import Derived.Test.YtlgdcelgkiipaaaGreatOc09
import Derived.StillTailTactics
import Derived.Deep.RegionHeld3
import Derived.BigQuiet
import Derived.Deep.QuietTactic
set_option maxRecDepth 100000
set_option linter.unusedVariables false
namespace Go.Proofs.YtlgdcelgkiipaaaGreat.Tbl.Tp
structure Pc where
 s:Bool
 at_:Nat
 len:Nat
instance:Inhabited Pc:=⟨⟨false,0,0⟩⟩
abbrev Plc:=Bool × Nat
def places (p:Pc):List Plc:=(List.range p.len).map fun i=>(p.s,p.at_ + i)
def Fol (a b:Pc):Prop:=a.s=b.s∧a.at_ + a.len=b.at_
instance (a b:Pc):Decidable (Fol a b):=inferInstanceAs (Decidable (_∧_))
def lay (out:List Pc) (p:Pc):List Pc :=
 if 0<out.length∧Fol (out.getD (out.length - 1) default) p then out.set (out.length - 1) ⟨(out.getD (out.length - 1) default).s,(out.getD (out.length - 1) default).at_,(out.getD (out.length - 1) default).len + p.len⟩ else out ++ [p]
def one (q:Plc):Pc:=⟨q.1,q.2,1⟩
def group (L:List Plc):List Pc:=(L.map one).foldl lay []
theorem len_places (p:Pc):(places p).length=p.len:=by simp [places]
theorem places_one (q:Plc):places (one q)=[q]:=by simp [places,one,List.range_succ]
theorem places_succ (s:Bool) (a n:Nat):places ⟨s,a,n + 1⟩=places ⟨s,a,n⟩ ++ [(s,a + n)]:=by simp [places,List.range_succ]
theorem places_add (s:Bool) (a n m:Nat):places ⟨s,a,n + m⟩=places ⟨s,a,n⟩ ++ places ⟨s,a + n,m⟩:=by
 induction m with
 | zero=>simp [places]
 | succ m ih=>rw [← Nat.add_assoc,places_succ,ih,places_succ,List.append_assoc,Nat.add_assoc]
theorem places_drop (s:Bool) (a n k:Nat):(places ⟨s,a,n⟩).drop k=places ⟨s,a + k,n - k⟩:=by
 rcases Nat.lt_or_ge n k with h | h
 ·rw [List.drop_of_length_le (by rw [len_places];simp only;omega),show n - k=0 by omega];rfl
 ·obtain ⟨m,rfl⟩ : ∃ m,n=k + m:=⟨n - k,by omega⟩
  rw [places_add,List.drop_left' (by rw [len_places]),show k + m - k=m by omega]
theorem places_take (s:Bool) (a n k:Nat):(places ⟨s,a,n⟩).take k=places ⟨s,a,min k n⟩:=by
 rcases Nat.lt_or_ge n k with h | h
 ·rw [List.take_of_length_le (by rw [len_places];simp only;omega),show min k n=n by omega]
 ·obtain ⟨m,rfl⟩ : ∃ m,n=k + m:=⟨n - k,by omega⟩
  rw [places_add,List.take_left' (by rw [len_places]),show min k (k + m)=k by omega]
theorem mem_places {q:Plc} {p:Pc} (h:q ∈ places p):q.1=p.s∧p.at_≤q.2∧q.2<p.at_ + p.len:=by
 simp only [places,List.mem_map,List.mem_range] at h
 obtain ⟨i,hi,rfl⟩:=h
 exact ⟨rfl,by omega,by simp only;omega⟩
theorem snoc_of {α:Type} {l:List α} (h:0<l.length):∃ i x,l=i ++ [x]:=by
 rcases List.eq_nil_or_concat l with rfl | ⟨i,x,rfl⟩
 ·simp at h
 ·exact ⟨i,x,by simp⟩
theorem lay_nil (p:Pc):lay [] p=[p]:=by simp [lay]
theorem lay_snoc (i:List Pc) (a p:Pc):lay (i ++ [a]) p=if Fol a p then i ++ [⟨a.s,a.at_,a.len + p.len⟩] else i ++ [a,p]:=by
 have e:(i ++ [a]).getD ((i ++ [a]).length - 1) default=a:=by simp
 unfold lay
 rw [e]
 by_cases h:Fol a p
 ·rw [if_pos ⟨by simp,h⟩,if_pos h]
  simp
 ·rw [if_neg (fun h2=>h h2.2),if_neg h];simp
def Nice (l:List Pc):Prop:=(∀ p ∈ l,1≤p.len)∧∀ i,i + 1<l.length→¬ Fol (l.getD i default) (l.getD (i + 1) default)
theorem nice_nil:Nice []:=⟨(fun p h=>by cases h),fun i h=>absurd h (by simp)⟩
theorem getD_snoc_lt {α:Type} [Inhabited α] (i:List α) (a:α) {k:Nat} (h:k<i.length):(i ++ [a]).getD k default=i.getD k default:=by
 rw [List.getD_eq_getElem?_getD,List.getD_eq_getElem?_getD,List.getElem?_append_left h]
theorem getD_snoc_eq {α:Type} [Inhabited α] (i:List α) (a:α):(i ++ [a]).getD i.length default=a:=by
 rw [List.getD_eq_getElem?_getD,List.getElem?_append_right (Nat.le_refl _)];simp
theorem nice_snoc {i:List Pc} {a:Pc} (h:Nice i) (ha:1≤a.len) (hf:∀ j x,i=j ++ [x]→¬ Fol x a):Nice (i ++ [a]):=by
 refine ⟨fun p hp=>?_,fun k hk=>?_⟩
 ·rcases List.mem_append.1 hp with hp | hp
  ·exact h.1 p hp
  ·simp at hp;rw [hp];exact ha
 ·rw [List.length_append,List.length_singleton] at hk
  rcases Nat.lt_or_ge (k + 1) i.length with h1 | h1
  ·rw [getD_snoc_lt i a (by omega),getD_snoc_lt i a h1];exact h.2 k h1
  ·have hlen:i.length=k + 1:=by omega
   obtain ⟨j,x,rfl⟩:=snoc_of (l:=i) (by omega)
   have hj:j.length=k:=by simpa using hlen
   have e1:((j ++ [x]) ++ [a]).getD k default=x:=by rw [getD_snoc_lt _ _ (by omega),← hj,getD_snoc_eq]
   have e2:((j ++ [x]) ++ [a]).getD (k + 1) default=a:=by rw [← hlen,getD_snoc_eq]
   rw [e1,e2];exact hf j x rfl
theorem nice_init {i:List Pc} {a:Pc} (h:Nice (i ++ [a])):Nice i∧1≤a.len∧∀ j x,i=j ++ [x]→¬ Fol x a:=by
 refine ⟨⟨fun p hp=>h.1 p (List.mem_append_left _ hp),fun k hk=>?_⟩,h.1 a (by simp),fun j x e=>?_⟩
 ·have:=h.2 k (by rw [List.length_append];simp;omega)
  rwa [getD_snoc_lt i a (by omega),getD_snoc_lt i a hk] at this
 ·subst e
  have:=h.2 j.length (by simp)
  rwa [getD_snoc_lt _ _ (by simp),getD_snoc_eq,show j.length + 1=(j ++ [x]).length by simp,getD_snoc_eq] at this
theorem nice_lay {out:List Pc} {p:Pc} (h:Nice out) (hp:1≤p.len):Nice (lay out p):=by
 rcases List.eq_nil_or_concat out with rfl | ⟨i,a,e⟩
 ·rw [lay_nil];exact nice_snoc (i:=[]) nice_nil hp (fun j x e=>by simp at e)
 ·have e:out=i ++ [a]:=by simpa using e
  subst e
  rw [lay_snoc]
  obtain ⟨h1,h2,h3⟩:=nice_init h
  split
  ·exact nice_snoc h1 (by simp only;omega) (fun j x e=>by have:=h3 j x e;exact this)
  ·rename_i hf
   rw [show i ++ [a,p]=(i ++ [a]) ++ [p] by simp]
   refine nice_snoc h hp (fun j x e=>?_)
   have:=List.append_inj' e rfl
   simp at this
   rw [← this.2];exact hf
theorem places_lay (out:List Pc) (p:Pc):(lay out p).flatMap places=out.flatMap places ++ places p:=by
 rcases List.eq_nil_or_concat out with rfl | ⟨i,a,e⟩
 ·simp [lay_nil]
 ·have e:out=i ++ [a]:=by simpa using e
  subst e
  rw [lay_snoc]
  split
  ·rename_i hf
   rw [List.flatMap_append,List.flatMap_append,List.append_assoc]
   congr 1
   simp only [List.flatMap_cons,List.flatMap_nil,List.append_nil]
   rw [places_add,show places a=places ⟨a.s,a.at_,a.len⟩ from rfl,hf.1,hf.2]
  ·simp [List.flatMap_append]
theorem lay_more (out:List Pc) (s:Bool) (a m:Nat):lay (lay out ⟨s,a,m⟩) ⟨s,a + m,1⟩=lay out ⟨s,a,m + 1⟩:=by
 rcases List.eq_nil_or_concat out with rfl | ⟨i,x,e⟩
 ·rw [lay_nil,lay_nil,show ([⟨s,a,m⟩]:List Pc)=[] ++ [⟨s,a,m⟩] from rfl,lay_snoc,if_pos ⟨rfl,rfl⟩];rfl
 ·have e:out=i ++ [x]:=by simpa using e
  subst e
  rw [lay_snoc,lay_snoc]
  by_cases hf:Fol x ⟨s,a,m⟩
  ·have hf2:Fol x ⟨s,a,m + 1⟩:=hf
   rw [if_pos hf,if_pos hf2,lay_snoc,if_pos (by
    refine ⟨hf.1,?_⟩
    have:=hf.2
    simp only at this ⊢
    omega)]
   simp [Nat.add_assoc]
  ·have hf2:¬ Fol x ⟨s,a,m + 1⟩:=hf
   rw [if_neg hf,if_neg hf2,show i ++ [x,(⟨s,a,m⟩ : Pc)]=(i ++ [x]) ++ [⟨s,a,m⟩] by simp,lay_snoc,if_pos ⟨rfl,rfl⟩]
   simp
theorem group_append (A B:List Plc):group (A ++ B)=(B.map one).foldl lay (group A):=by simp [group,List.foldl_append]
theorem lay_ones (out:List Pc) (s:Bool) (a:Nat):∀ m,1≤m→((places ⟨s,a,m⟩).map one).foldl lay out=lay out ⟨s,a,m⟩
 | 0,h=>by omega
 | 1,_=>by simp [places,List.range_succ,one]
 | m + 2,_=>by
  rw [places_succ,List.map_append,List.foldl_append,lay_ones out s a (m + 1) (by omega),← lay_more out s a (m + 1)]
  rfl
theorem group_lay (L:List Plc) (p:Pc) (hp:1≤p.len):group (L ++ places p)=lay (group L) p:=by
 rw [group_append,show p=⟨p.s,p.at_,p.len⟩ from rfl,lay_ones _ _ _ _ hp]
theorem group_lays (L:List Plc) (ps:List Pc) (h:∀ p ∈ ps,1≤p.len):group (L ++ ps.flatMap places)=ps.foldl lay (group L):=by
 induction ps generalizing L with
 | nil=>simp
 | cons p ps ih =>
  rw [List.flatMap_cons,← List.append_assoc,ih (L ++ places p) (fun q hq=>h q (List.mem_cons_of_mem _ hq)),group_lay L p (h p (List.mem_cons_self ..))]
  rfl
theorem group_nice:∀ L:List Plc,Nice (group L):=by
 intro L
 suffices ∀ (l:List Plc) (out:List Pc),Nice out→Nice ((l.map one).foldl lay out) from this L [] nice_nil
 intro l
 induction l with
 | nil=>intro out h;exact h
 | cons q l ih=>intro out h;exact ih (lay out (one q)) (nice_lay h (Nat.le_refl _))
theorem group_places:∀ L:List Plc,(group L).flatMap places=L:=by
 intro L
 suffices ∀ (l:List Plc) (out:List Pc),((l.map one).foldl lay out).flatMap places=out.flatMap places ++ l by simpa [group] using this L []
 intro l
 induction l with
 | nil=>intro out;simp
 | cons q l ih =>
  intro out
  show ((l.map one).foldl lay (lay out (one q))).flatMap places=_
  rw [ih,places_lay,places_one,List.append_assoc];rfl
def total (ps:List Pc):Nat:=(ps.map (·.len)).sum
theorem total_places (ps:List Pc):(ps.flatMap places).length=total ps:=by
 induction ps with
 | nil=>rfl
 | cons p ps ih=>rw [List.flatMap_cons,List.length_append,len_places,ih];simp [total]
theorem total_group (L:List Plc):total (group L)=L.length:=by rw [← total_places,group_places]
theorem total_take (ps:List Pc) (i:Nat) (h:i<ps.length):total (ps.take (i + 1))=total (ps.take i) + (ps.getD i default).len:=by
 rw [List.take_add_one,List.getElem?_eq_getElem h,List.getD_eq_getElem?_getD,List.getElem?_eq_getElem h]
 unfold total
 rw [List.map_append,List.sum_append]
 simp
theorem total_take_le (ps:List Pc) (i:Nat):total (ps.take i)≤total ps:=by
 conv=>rhs;rw [← List.take_append_drop i ps]
 unfold total
 rw [List.map_append,List.sum_append]
 omega
theorem len_le_total {ps:List Pc} (h:∀ p ∈ ps,1≤p.len):ps.length≤total ps:=by
 induction ps with
 | nil=>simp
 | cons p ps ih =>
  have h1:=h p (List.mem_cons_self ..)
  have h2:=ih (fun q hq=>h q (List.mem_cons_of_mem _ hq))
  simp [total] at h2 ⊢
  omega
theorem group_len (L:List Plc):(group L).length≤L.length:=by rw [← total_group];exact len_le_total (group_nice L).1
theorem group_nil:group []=[]:=rfl
theorem group_one {p:Pc} (hp:1≤p.len):group (places p)=[p]:=by
 have:=group_lay [] p hp
 rw [List.nil_append] at this
 rw [this,group_nil,lay_nil]
def clip1 (from_ upto:Int) (p:Pc):List Pc :=
 if max from_ 0<min upto (p.len:Int) then [⟨p.s,p.at_ + (max from_ 0).toNat,(min upto (p.len:Int) - max from_ 0).toNat⟩] else []
def clip (from_ upto:Int):List Pc→List Pc
 | []=>[]
 | p :: r=>clip1 from_ upto p ++ clip (from_ - p.len) (upto - p.len) r
theorem clip_len (from_ upto:Int) (ps:List Pc):∀ p ∈ clip from_ upto ps,1≤p.len:=by
 induction ps generalizing from_ upto with
 | nil=>intro p h;cases h
 | cons a r ih =>
  intro p h
  rcases List.mem_append.1 h with h | h
  ·unfold clip1 at h
   split at h
   ·simp at h
    rw [h]
    simp only
    omega
   ·cases h
  ·exact ih _ _ p h
theorem clip_snoc (a:Pc):∀ (ps:List Pc) (from_ upto:Int),clip from_ upto (ps ++ [a])=clip from_ upto ps ++ clip1 (from_ - total ps) (upto - total ps) a
 | [],f,u=>by simp [clip,total]
 | p :: r,f,u=>by
  rw [List.cons_append,clip,clip,clip_snoc a r,List.append_assoc]
  have e:(total (p :: r):Int)=(p.len:Int) + (total r:Int):=by simp [total]
  rw [e,Int.sub_sub,Int.sub_sub]
theorem clip_take (ps:List Pc) (i:Nat) (h:i<ps.length) (from_ upto:Int):clip from_ upto (ps.take (i + 1))=clip from_ upto (ps.take i) ++ clip1 (from_ - total (ps.take i)) (upto - total (ps.take i)) (ps.getD i default):=by
 have e:ps.take (i + 1)=ps.take i ++ [ps.getD i default]:=by
  rw [List.take_add_one,List.getElem?_eq_getElem h,List.getD_eq_getElem?_getD,List.getElem?_eq_getElem h];rfl
 rw [e,clip_snoc]
theorem places_clip1 (f u:Int) (p:Pc):(clip1 f u p).flatMap places=((places p).drop f.toNat).take (u.toNat - f.toNat):=by
 rw [show p=⟨p.s,p.at_,p.len⟩ from rfl,places_drop,places_take]
 unfold clip1
 split
 ·rename_i h
  simp only [List.flatMap_cons,List.flatMap_nil,List.append_nil]
  have e1:(max f 0).toNat=f.toNat:=by omega
  have e2:(min u (p.len:Int) - max f 0).toNat=min (u.toNat - f.toNat) (p.len - f.toNat):=by omega
  rw [e1,e2]
 ·rename_i h
  have e2:min (u.toNat - f.toNat) (p.len - f.toNat)=0:=by simp only at h;omega
  rw [e2];rfl
theorem places_clip:∀ (ps:List Pc) (f u:Int),(clip f u ps).flatMap places=((ps.flatMap places).drop f.toNat).take (u.toNat - f.toNat)
 | [],f,u=>by simp [clip]
 | p :: r,f,u=>by
  rw [clip,List.flatMap_append,List.flatMap_cons,places_clip1,places_clip r,List.drop_append,List.take_append,len_places]
  congr 1
  rw [List.length_drop,len_places]
  have e1:(f - (p.len:Int)).toNat=f.toNat - p.len:=by omega
  have e2:(u - (p.len:Int)).toNat - (f.toNat - p.len)=u.toNat - f.toNat - (p.len - f.toNat):=by omega
  rw [e1,e2]
theorem clip_mem {f u:Int} {ps:List Pc} {p:Pc} (h:p ∈ clip f u ps) {q:Plc} (hq:q ∈ places p):q ∈ ps.flatMap places:=by
 have:q ∈ (clip f u ps).flatMap places:=List.mem_flatMap.2 ⟨p,h,hq⟩
 rw [places_clip] at this
 exact List.mem_of_mem_drop (List.mem_of_mem_take this)
structure Tab where
 fst:List Int
 snd:List Int
 L:List Plc
def Tab.buf (t:Tab) (s:Bool):List Int:=if s then t.snd else t.fst
def Tab.look (t:Tab) (q:Plc):Int:=(t.buf q.1).getD q.2 0
def Tab.text (t:Tab):List Int:=t.L.map t.look
def Tab.str (t:Tab) (p:Pc):List Int:=((t.buf p.s).drop p.at_).take p.len
def Tab.ins (t:Tab) (k:Nat) (l:List Int):Tab:=⟨t.fst,t.snd ++ l,t.L.take k ++ places ⟨true,t.snd.length,l.length⟩ ++ t.L.drop k⟩
def Tab.del (t:Tab) (k n:Nat):Tab:=⟨t.fst,t.snd,t.L.take k ++ t.L.drop (k + n)⟩
def fresh (cs:List Int):Tab:=⟨cs,[],places ⟨false,0,cs.length⟩⟩
def Tab.Ok (t:Tab) (m:Nat):Prop:=(∀ q ∈ t.L,q.2<(t.buf q.1).length)∧t.L.length≤t.fst.length + t.snd.length∧t.fst.length + t.snd.length≤m
theorem Tab.Ok.mono {t:Tab} {m k:Nat} (h:t.Ok m) (hk:m≤k):t.Ok k:=⟨h.1,h.2.1,Nat.le_trans h.2.2 hk⟩
theorem Tab.Ok.len {t:Tab} {m:Nat} (h:t.Ok m):t.L.length≤m:=Nat.le_trans h.2.1 h.2.2
theorem len_text (t:Tab):t.text.length=t.L.length:=by simp [Tab.text]
theorem fresh_ok (cs:List Int):(fresh cs).Ok cs.length :=
 ⟨fun q hq=>by
  have:=mem_places hq
  show q.2<((fresh cs).buf q.1).length
  rw [this.1]
  have h:=this.2.2
  simp only at h
  show q.2<cs.length
  omega,by simp [fresh,len_places],by simp [fresh]⟩
theorem Tab.Ok.ins {t:Tab} {m:Nat} (h:t.Ok m) (k:Nat) (l:List Int) (hk:k≤t.L.length):(t.ins k l).Ok (m + l.length):=by
 have hb:∀ q ∈ t.L,q.2<((t.ins k l).buf q.1).length:=fun q hq=>by
  have:=h.1 q hq
  unfold Tab.buf at this ⊢
  show q.2<(if q.1=true then t.snd ++ l else t.fst).length
  split at this
  ·rename_i hs;rw [if_pos hs,List.length_append];omega
  ·rename_i hs;rw [if_neg hs];exact this
 refine ⟨fun q hq=>?_,?_,?_⟩
 ·rcases List.mem_append.1 hq with hq | hq
  ·rcases List.mem_append.1 hq with hq | hq
   ·exact hb q (List.mem_of_mem_take hq)
   ·have:=mem_places hq
    rw [this.1]
    show q.2<(t.snd ++ l).length
    rw [List.length_append];exact this.2.2
  ·exact hb q (List.mem_of_mem_drop hq)
 ·show (t.L.take k ++ places ⟨true,t.snd.length,l.length⟩ ++ t.L.drop k).length≤t.fst.length + (t.snd ++ l).length
  have:=h.2.1
  rw [List.length_append,List.length_append,len_places,List.length_take,List.length_drop,List.length_append]
  simp only
  omega
 ·show t.fst.length + (t.snd ++ l).length≤_
  have:=h.2.2
  rw [List.length_append];omega
theorem Tab.Ok.del {t:Tab} {m:Nat} (h:t.Ok m) (k n:Nat):(t.del k n).Ok m:=by
 refine ⟨fun q hq=>?_,?_,h.2.2⟩
 ·rcases List.mem_append.1 hq with hq | hq
  ·exact h.1 q (List.mem_of_mem_take hq)
  ·exact h.1 q (List.mem_of_mem_drop hq)
 ·show (t.L.take k ++ t.L.drop (k + n)).length≤t.fst.length + t.snd.length
  have:=h.2.1
  rw [List.length_append,List.length_take,List.length_drop]
  omega
theorem look_places_fst (t:Tab) (p:Pc) (h:p.at_ + p.len≤(t.buf p.s).length):(places p).map t.look=t.str p:=by
 unfold Tab.str places
 apply List.ext_getElem
 ·simp;omega
 ·intro i h1 h2
  simp only [List.length_map,List.length_range] at h1
  simp only [List.getElem_map,List.getElem_range,Tab.look,List.getElem_take,List.getElem_drop]
  rw [List.getD_eq_getElem?_getD,List.getElem?_eq_getElem (by omega)];rfl
theorem text_places (t:Tab) (ps:List Pc) (h:∀ p ∈ ps,p.at_ + p.len≤(t.buf p.s).length):(ps.flatMap places).map t.look=ps.flatMap t.str:=by
 induction ps with
 | nil=>rfl
 | cons p ps ih=>rw [List.flatMap_cons,List.flatMap_cons,List.map_append,look_places_fst t p (h p (List.mem_cons_self ..)),ih (fun q hq=>h q (List.mem_cons_of_mem _ hq))]
theorem Tab.Ok.pc {t:Tab} {m:Nat} (h:t.Ok m) {p:Pc} (hl:1≤p.len) (hp:∀ q ∈ places p,q ∈ t.L):p.at_ + p.len≤(t.buf p.s).length:=by
 have:=h.1 (p.s,p.at_ + (p.len - 1)) (hp _ (List.mem_map.2 ⟨p.len - 1,List.mem_range.2 (by omega),rfl⟩))
 simp only at this
 omega
theorem Tab.Ok.pc_clip {t:Tab} {m:Nat} (h:t.Ok m) {f u:Int} {p:Pc} (hp:p ∈ clip f u (group t.L)):p.at_ + p.len≤(t.buf p.s).length :=
 h.pc (clip_len f u _ p hp) fun q hq=>by
  have:=clip_mem hp hq
  rwa [group_places] at this
theorem text_clip {t:Tab} {m:Nat} (h:t.Ok m) (k n:Nat):(clip (k:Int) ((k + n:Nat):Int) (group t.L)).flatMap t.str=(t.text.drop k).take n:=by
 rw [← text_places t _ (fun p hp=>h.pc_clip hp),places_clip,group_places,Tab.text,← List.map_drop,← List.map_take]
 congr 2
 omega
theorem fresh_text (cs:List Int):(fresh cs).text=cs:=by
 have h:=look_places_fst (fresh cs) ⟨false,0,cs.length⟩ (by show 0 + cs.length≤cs.length;omega)
 have e:(fresh cs).text=(places ⟨false,0,cs.length⟩).map (fresh cs).look:=rfl
 rw [e,h]
 show (cs.drop 0).take cs.length=cs
 rw [List.drop_zero,List.take_length]
theorem look_ins (t:Tab) (k:Nat) (l:List Int) {q:Plc} (h:q.2<(t.buf q.1).length):(t.ins k l).look q=t.look q:=by
 unfold Tab.look
 show (if q.1=true then t.snd ++ l else t.fst).getD q.2 0=(if q.1=true then t.snd else t.fst).getD q.2 0
 unfold Tab.buf at h
 split
 ·rename_i hs
  rw [if_pos hs] at h
  rw [List.getD_eq_getElem?_getD,List.getD_eq_getElem?_getD,List.getElem?_append_left h]
 ·rfl
theorem ins_text {t:Tab} {m:Nat} (h:t.Ok m) (k:Nat) (l:List Int):(t.ins k l).text=t.text.take k ++ l ++ t.text.drop k:=by
 have hL:∀ X:List Plc,(∀ q ∈ X,q ∈ t.L)→X.map (t.ins k l).look=X.map t.look:=fun X hX=>List.map_congr_left fun q hq=>look_ins t k l (h.1 q (hX q hq))
 have hm:=look_places_fst (t.ins k l) ⟨true,t.snd.length,l.length⟩ (by show t.snd.length + l.length≤(t.snd ++ l).length;rw [List.length_append];omega)
 have e:(t.ins k l).str ⟨true,t.snd.length,l.length⟩=l:=by
  show ((t.snd ++ l).drop t.snd.length).take l.length=l
  rw [List.drop_left' rfl,List.take_length]
 show List.map (t.ins k l).look (t.L.take k ++ places ⟨true,t.snd.length,l.length⟩ ++ t.L.drop k)=_
 rw [List.map_append,List.map_append,hm,e,hL _ (fun q hq=>List.mem_of_mem_take hq),hL _ (fun q hq=>List.mem_of_mem_drop hq),List.map_take,List.map_drop];rfl
theorem del_text (t:Tab) (k n:Nat):(t.del k n).text=t.text.take k ++ t.text.drop (k + n):=by
 show List.map t.look (t.L.take k ++ t.L.drop (k + n))=_
 rw [List.map_append,List.map_take,List.map_drop];rfl
theorem ins_group (t:Tab) (k:Nat) (l:List Int) (hl:1≤l.length) :
  ((clip 0 (k:Int) (group t.L) ++ ([⟨true,t.snd.length,l.length⟩]:List Pc)) ++ clip (k:Int) (t.L.length:Int) (group t.L)).foldl lay []=group (t.ins k l).L:=by
 have h:=group_lays [] ((clip 0 (k:Int) (group t.L) ++ ([⟨true,t.snd.length,l.length⟩]:List Pc)) ++ clip (k:Int) (t.L.length:Int) (group t.L)) (fun p hp=>by
  rcases List.mem_append.1 hp with hp | hp
  ·rcases List.mem_append.1 hp with hp | hp
   ·exact clip_len _ _ _ p hp
   ·simp at hp;rw [hp];exact hl
  ·exact clip_len _ _ _ p hp)
 rw [List.nil_append,group_nil] at h
 rw [← h]
 show group _=group (t.L.take k ++ places ⟨true,t.snd.length,l.length⟩ ++ t.L.drop k)
 congr 1
 rw [List.flatMap_append,List.flatMap_append,places_clip,places_clip,group_places]
 simp only [List.flatMap_cons,List.flatMap_nil,List.append_nil,Int.toNat_natCast,Int.toNat_zero,List.drop_zero,Nat.sub_zero]
 rw [List.take_of_length_le (l:=t.L.drop k) (by rw [List.length_drop];omega)]
theorem del_group (t:Tab) (k n:Nat) :
  (clip 0 (k:Int) (group t.L) ++ clip ((k + n:Nat):Int) (t.L.length:Int) (group t.L)).foldl lay []=group (t.del k n).L:=by
 have h:=group_lays [] (clip 0 (k:Int) (group t.L) ++ clip ((k + n:Nat):Int) (t.L.length:Int) (group t.L)) (fun p hp=>by
  rcases List.mem_append.1 hp with hp | hp
  ·exact clip_len _ _ _ p hp
  ·exact clip_len _ _ _ p hp)
 rw [List.nil_append,group_nil] at h
 rw [← h]
 show group _=group (t.L.take k ++ t.L.drop (k + n))
 congr 1
 rw [List.flatMap_append,places_clip,places_clip,group_places]
 simp only [Int.toNat_natCast,Int.toNat_zero,List.drop_zero,Nat.sub_zero]
 rw [List.take_of_length_le (l:=t.L.drop (k + n)) (by rw [List.length_drop];omega)]
end Go.Proofs.YtlgdcelgkiipaaaGreat.Tbl.Tp
namespace Go.Proofs.YtlgdcelgkiipaaaGreat.Tbl
open Go.RowKit
open Tp (Pc Plc Tab)
def encP (p:Pc):List Value:=[.bool p.s,.int .i64 (p.at_:Int),.int .i64 (p.len:Int)]
def aggP (p:Pc):Value:=.agg #[.bool p.s,.int .i64 (p.at_:Int),.int .i64 (p.len:Int)]
theorem encP_len (p:Pc):(encP p).length=3:=rfl
theorem encP_one (p:Pc):∀ u ∈ encP p,u.oneCell'=true:=by
 intro u hu
 simp [encP] at hu
 rcases hu with rfl | rfl | rfl <;> rfl
theorem infoPc:(Tryz.prog.info? 183).map (fun i=>(i.zero,i.size,i.bytes))=some (some (.agg #[.bool false,.int .i64 0,.int .i64 0]),3,24):=by kernel_rfl
abbrev OwnP (w:World) (base:Nat) (v:Value) (ps:List Pc):Prop:=OwnR encP 3 183 w base v ps
abbrev Pcs (w:World) (B:Nat) (A:Option Addr) (n c:Nat) (ps:List Pc):Prop:=Rws encP w B A n c ps
theorem Pcs.at_ {w:World} {B:Nat} {A:Option Addr} {n c:Nat} {ps:List Pc} (h:Pcs w B A n c ps) {i:Nat} (hi:i<n) :
  ∃ g o,A=some ⟨g,o,none⟩∧g<B∧∀ i,i<n→w.cell? ⟨g,o + i * 3,none⟩=some (.bool (ps.getD i default).s)∧w.cell? ⟨g,o + i * 3 + 1,none⟩=some (.int .i64 ((ps.getD i default).at_:Int))∧w.cell? ⟨g,o + i * 3 + 2,none⟩=some (.int .i64 ((ps.getD i default).len:Int)):=by
 obtain ⟨g,o,e,hg,hc⟩:=Rws.at_ encP_len h hi
 exact ⟨g,o,e,hg,fun i hi=>⟨hc i hi 0 _ (by decide) rfl,hc i hi 1 _ (by decide) rfl,hc i hi 2 _ (by decide) rfl⟩⟩
def Tb (w:World) (F:Nat→Prop) (p:Nat) (t:Tab) (m:Nat):Prop :=
 (∀ b,F b→b<w.heap.size)∧t.Ok m∧m≤1073741824∧F p ∧
  ∃ (A1:Option Addr) (c1 q:Nat) (A2:Option Addr) (c2:Nat) (A3:Option Addr) (c3:Nat),
   w.heap[p]?=some (.cells #[.slice A1 t.fst.length c1,.pointer (some ⟨q,0,none⟩),.int .i64 ((t.snd.length:Nat):Int),.slice A3 (Tp.group t.L).length c3] 181 (0,0)) ∧
   w.heap[q]?=some (.cells #[.slice A2 t.snd.length c2] 178 (0,0)) ∧
   OwnC w 0 (.slice A1 t.fst.length c1) t.fst∧OwnC w 0 (.slice A2 t.snd.length c2) t.snd∧OwnP w 0 (.slice A3 (Tp.group t.L).length c3) (Tp.group t.L)∧F q∧p≠q ∧
   (∀ g,Value.ownBlock (.slice A1 t.fst.length c1)=some g→F g∧g≠p∧g≠q∧some g≠Value.ownBlock (.slice A2 t.snd.length c2)) ∧
   (∀ g,Value.ownBlock (.slice A2 t.snd.length c2)=some g→F g∧g≠p∧g≠q) ∧
   (∀ g,Value.ownBlock (.slice A3 (Tp.group t.L).length c3)=some g→F g∧g≠p∧g≠q∧some g≠Value.ownBlock (.slice A2 t.snd.length c2))
section
variable {w w':World} {T F:Nat→Prop} {p:Nat} {t:Tab} {m:Nat}
theorem Tb.lt (h:Tb w F p t m):∀ b,F b→b<w.heap.size:=h.1
theorem Tb.ok (h:Tb w F p t m):t.Ok m:=h.2.1
theorem Tb.le (h:Tb w F p t m):m≤1073741824:=h.2.2.1
theorem Tb.mem (h:Tb w F p t m):F p:=h.2.2.2.1
theorem Tb.keep (h:Tb w F p t m) (ht:Tn T w w') (hT:∀ b,F b→¬ T b):Tb w' F p t m:=by
 obtain ⟨hl,ho,hm,hp,A1,c1,q,A2,c2,A3,c3,h1,h2,h3,h4,h5,h6,h7,h8,h9,h10⟩:=h
 exact ⟨fun b hb=>Nat.lt_of_lt_of_le (hl b hb) ht.size,ho,hm,hp,A1,c1,q,A2,c2,A3,c3,ht.old h1 (hT p hp),ht.old h2 (hT q h6),h3.tn ht (fun g hg=>hT g (h8 g hg).1),h4.tn ht (fun g hg=>hT g (h9 g hg).1),OwnR.tn h5 ht (fun g hg=>hT g (h10 g hg).1),h6,h7,h8,h9,h10⟩
theorem Tb.below {B:Nat} (h:Tb w F p t m) (hb:Below B w w') (hB:∀ b,F b→b<B):Tb w' F p t m :=
 h.keep (Tn.byBelow (T:=fun b=>B≤b) hb (fun _ x=>x)) (fun b hb h=>by have:=hB b hb;omega)
theorem Tb.then_ (h:Tb w F p t m) (hb:Below w.heap.size w w'):Tb w' F p t m:=h.below hb h.lt
theorem Tb.mono {k:Nat} (h:Tb w F p t m) (hk:m≤k) (hb:k≤1073741824):Tb w F p t k:=⟨h.1,h.2.1.mono hk,hb,h.2.2.2⟩
theorem Tb.wider {G:Nat→Prop} (h:Tb w F p t m) (hG:∀ b,F b→G b) (hl:∀ b,G b→b<w.heap.size):Tb w G p t m:=by
 obtain ⟨_,ho,hm,hp,A1,c1,q,A2,c2,A3,c3,h1,h2,h3,h4,h5,h6,h7,h8,h9,h10⟩:=h
 exact ⟨hl,ho,hm,hG p hp,A1,c1,q,A2,c2,A3,c3,h1,h2,h3,h4,h5,hG q h6,h7,fun g hg=>⟨hG g (h8 g hg).1,(h8 g hg).2⟩,fun g hg=>⟨hG g (h9 g hg).1,(h9 g hg).2⟩,fun g hg=>⟨hG g (h10 g hg).1,(h10 g hg).2⟩⟩
end
def Did (w:World) (F:Nat→Prop) (p:Nat) (t:Tab) (m:Nat) (w':World):Prop:=∃ F',Tb w' F' p t m∧Tn F w w'∧(∀ b,F' b→F b∨w.heap.size≤b)∧∀ b,F b→F' b
def NoTb (w:World) (A:Option Addr):Prop:=A=none∨∃ p a c d,A=some ⟨p,0,none⟩∧w.heap[p]?=some (.cells #[a,.pointer none,c,d] 181 (0,0))
set_option maxHeartbeats 400000 in
theorem none_tb {w:World} {F:Nat→Prop} {p:Nat} {t:Tab} {m:Nat} (h:Tb w F p t m) :
  Calls Tryz.prog 138 #[.pointer (some ⟨p,0,none⟩)] w fun e w'=>e=.returned (.bool false)∧w=w':=by
 obtain ⟨hl,ho,hm,hp,A1,c1,q,A2,c2,A3,c3,h1,h2,h3,h4,h5,h6,h7,h8,h9,h10⟩:=h
 have d1:=cell1 h1
 clear h1 h2 h3 h4 h5 h6 h7 h8 h9 h10 hl ho hm hp
 go_enter Tryz.func138,Tryz.ntmps138
 go_wp2_with fail
 go_ret
 exact ⟨rfl,rfl⟩
set_option maxHeartbeats 400000 in
theorem none_no {w:World} {A:Option Addr} (h:NoTb w A) :
  Calls Tryz.prog 138 #[.pointer A] w fun e w'=>e=.returned (.bool true)∧w=w':=by
 rcases h with rfl | ⟨p,a,c,d,rfl,h1⟩
 ·go_enter Tryz.func138,Tryz.ntmps138
  go_wp2_with fail
  go_ret
  exact ⟨rfl,rfl⟩
 ·have d1:=cell1 h1
  clear h1
  go_enter Tryz.func138,Tryz.ntmps138
  go_wp2_with fail
  go_ret
  exact ⟨rfl,rfl⟩
def LenRel (w:World) (ps:List Pc) (s i:Value) (wr:World):Prop :=
 ∃ j:Nat,i=.int .i64 (j:Int)∧j≤ps.length∧s=.int .i64 ((Tp.total (ps.take j):Nat):Int)∧Below w.heap.size w wr
set_option maxHeartbeats 400000 in
theorem len_tb {w:World} {F:Nat→Prop} {p:Nat} {t:Tab} {m:Nat} (h:Tb w F p t m) :
  Calls Tryz.prog 84 #[.pointer (some ⟨p,0,none⟩)] w fun e w'=>e=.returned (.int .i64 ((t.L.length:Nat):Int))∧Below w.heap.size w w':=by
 have HN:=Lib.hid (none_tb h)
 have hlen:=h.ok.len
 have hmm:=h.le
 have HP:=Lib.hid (lt_of_block h.2.2.2.2.choose_spec.choose_spec.choose_spec.choose_spec.choose_spec.choose_spec.choose_spec.1)
 obtain ⟨hl,ho,hm,hp,A1,c1,q,A2,c2,A3,c3,h1,h2,h3,h4,h5,h6,h7,h8,h9,h10⟩:=h
 have d3:=cell3 h1
 have HT:=Lib.hid (Tp.total_group t.L)
 have hps:=Tp.group_len t.L
 obtain ⟨ps,hps0⟩ : ∃ ps,ps=Tp.group t.L:=⟨_,rfl⟩
 rw [← hps0] at d3 h5 HT hps
 have HR:=Lib.hid (OwnR.rws encP_len h5).2
 clear h1 h2 h3 h4 h5 h6 h7 h8 h9 h10 hl ho hp hps0
 go_enter Tryz.func84,Tryz.ntmps84
 go_wp2_with fail
 refine HN.out.mono ?_
 rintro e w' ⟨rfl,rfl⟩
 go_wp2_with fail
 go_loopw [3,13] (fun s i wr=>LenRel w ps s i wr) (fun _ i _=>ps.length - (intOf i).toNat)
 case atStart=>exact ⟨0,rfl,Nat.zero_le _,rfl,Below.refl _ _⟩
 case round =>
  obtain ⟨j,rfl,hj,rfl,hb⟩:=hrel
  have HB:=Lib.hid hb
  by_cases hlt:j<ps.length
  ·have hR:=Rws.below HR.out hb (Nat.le_refl _)
   obtain ⟨g,o,rfl,hg,hc⟩:=Pcs.at_ hR hlt
   obtain ⟨c0,cc1,cc2⟩:=hc j hlt
   have hs:=Tp.total_take ps j hlt
   have hs2:=Tp.total_take_le ps (j + 1)
   rw [HT.out] at hs2
   have HS:=Lib.hid hs
   obtain ⟨x,hx⟩ : ∃ x,x=(ps.getD j default).len:=⟨_,rfl⟩
   obtain ⟨y,hy⟩ : ∃ y,y=Tp.total (ps.take j):=⟨_,rfl⟩
   rw [← hx] at cc2 HS hs
   rw [← hy] at HS hs
   rw [← hy]
   have hbd:y + x≤1073741824:=by omega
   clear hc hs hs2 hx hy hb hR
   go_wp2_with fail
   go_roundw
   case rel=>exact ⟨j + 1,by go_num,by omega,by rw [HS.out];go_num,HB.out.alloc HB.out.size _⟩
   case measure=>simp [intOf];omega
  ·have hjn:j=ps.length:=by omega
   have hs:Tp.total (ps.take j)=t.L.length:=by rw [hjn,List.take_length,HT.out]
   clear hb
   rw [hs]
   clear hs hjn
   go_wp2_with fail
   go_ret
   exact ⟨rfl,HB.out⟩
end Go.Proofs.YtlgdcelgkiipaaaGreat.Tbl
