/-
  Rows of units in plain words: the grid, what a row leaves, both ways one text, row by row; rows in parts. Nothing of a program is named here.
  A rule for a region that draws its order and turns memory: each operation has a word ('F i') on what it leaves in its slot; 'S L a' says of memory (and of the slots, a) what holds when the operations of L have come up; the words stay true along 'R' (how one operation may turn memory). Then, whatever order is picked, all words are true at the end. Nothing of a program is named here.
-/
import Derived.Test.YtlgdcelgkiipaaaGreatOc04
import Derived.Orders
import Derived.Calls
import Derived.Below
import Derived.WalkKit
set_option maxRecDepth 100000
set_option linter.unusedVariables false
namespace Go.Proofs.YtlgdcelgkiipaaaGreat
open Go.RowKit
open Pl (Un)
namespace Pl
def thru (x:Un):List Un→Un × List Un
 | []=>(x,[])
 | y :: bs=>((thru (over x y) bs).1,over y x :: (thru (over x y) bs).2)
def bothR:List Un→List Un→List Un × List Un
 | [],bs=>([],bs)
 | x :: aas,bs=>((thru x bs).1 :: (bothR aas (thru x bs).2).1,(bothR aas (thru x bs).2).2)
def leave:List Un→List Int→List Int
 | [],cs=>cs
 | x :: r,cs=>leave r (behind x cs)
def FitR:List Un→List Int→Prop
 | [],_=>True
 | x :: r,cs=>Fit x cs.length∧FitR r (behind x cs)
theorem leave_append:∀ (a b:List Un) (cs:List Int),leave (a ++ b) cs=leave b (leave a cs)
 | [],_,_=>rfl
 | x :: a,b,cs=>leave_append a b (behind x cs)
theorem len_thru (x:Un) (bs:List Un):(thru x bs).2.length=bs.length:=by
 induction bs generalizing x with
 | nil=>rfl
 | cons y bs ih=>simp [thru,ih]
theorem len_both (aas bs:List Un):(bothR aas bs).1.length=aas.length∧(bothR aas bs).2.length=bs.length:=by
 induction aas generalizing bs with
 | nil=>exact ⟨rfl,rfl⟩
 | cons x aas ih=>exact ⟨by simp [bothR,(ih _).1],by simp [bothR,(ih _).2,len_thru]⟩
theorem over_id (a b:Un):(over a b).x=a.x∧(over a b).y=a.y:=by
 unfold over pastIns pastDel
 repeat' split
 all_goals exact ⟨rfl,rfl⟩
theorem thru_id (x:Un) (bs:List Un):(thru x bs).1.x=x.x∧(thru x bs).1.y=x.y:=by
 induction bs generalizing x with
 | nil=>exact ⟨rfl,rfl⟩
 | cons y bs ih =>
  have h:=ih (over x y)
  have h2:=over_id x y
  exact ⟨h.1.trans h2.1,h.2.trans h2.2⟩
theorem len_behind_le {u:Un} {cs:List Int} (h:Fit u cs.length):(behind u cs).length≤cs.length + 1:=by
 have:=len_behind h
 have e:grows u.k≤1:=by unfold grows;split <;> (try split) <;> omega
 omega
theorem thru_append (x:Un) (b1 b2:List Un):thru x (b1 ++ b2)=((thru (thru x b1).1 b2).1,(thru x b1).2 ++ (thru (thru x b1).1 b2).2):=by
 induction b1 generalizing x with
 | nil=>rfl
 | cons y b1 ih=>simp [thru,ih]
theorem both_append_left (a1 a2 bs:List Un):bothR (a1 ++ a2) bs=((bothR a1 bs).1 ++ (bothR a2 (bothR a1 bs).2).1,(bothR a2 (bothR a1 bs).2).2):=by
 induction a1 generalizing bs with
 | nil=>rfl
 | cons x a1 ih=>simp [bothR,ih]
def pastR (a:List Un):List (List Un)→List Un
 | []=>a
 | b :: r=>pastR (bothR a b).1 r
def placeR (pos:Int):List Un→Int
 | []=>pos
 | u :: r=>placeR (if u.k=1∧u.p≤pos then wrap64 (pos + 1) else if u.k=2∧u.p<pos then wrap64 (pos - 1) else pos) r
theorem thru_take (x:Un) (bs:List Un) (k:Nat) (y:Un) (h:bs[k]?=some y):(thru x (bs.take (k + 1))).1=over (thru x (bs.take k)).1 y∧(thru x (bs.take (k + 1))).2=(thru x (bs.take k)).2 ++ [over y (thru x (bs.take k)).1]:=by
 rw [List.take_add_one,h,show (some y).toList=[y] from rfl,thru_append]
 exact ⟨rfl,rfl⟩
theorem both_take (aas bs:List Un) (i:Nat) (x:Un) (h:aas[i]?=some x):(bothR (aas.take (i + 1)) bs).1=(bothR (aas.take i) bs).1 ++ [(thru x (bothR (aas.take i) bs).2).1]∧(bothR (aas.take (i + 1)) bs).2=(thru x (bothR (aas.take i) bs).2).2:=by
 rw [List.take_add_one,h,show (some x).toList=[x] from rfl,both_append_left]
 exact ⟨rfl,rfl⟩
theorem leave_take (r:List Un) (cs:List Int) (i:Nat) (x:Un) (h:r[i]?=some x):leave (r.take (i + 1)) cs=behind x (leave (r.take i) cs):=by
 rw [List.take_add_one,h,show (some x).toList=[x] from rfl,leave_append]
 rfl
theorem fit_take (r:List Un) (cs:List Int) (h:FitR r cs) (i:Nat) (x:Un) (hx:r[i]?=some x):Fit x (leave (r.take i) cs).length:=by
 induction r generalizing cs i with
 | nil=>cases hx
 | cons u r ih =>
  cases i with
  | zero=>injection hx with hx;subst hx;exact h.1
  | succ i=>exact ih (behind u cs) h.2 i (by simpa using hx)
theorem place_take (r:List Un) (pos:Int) (i:Nat) (u:Un) (h:r[i]?=some u):placeR pos (r.take (i + 1))=if u.k=1∧u.p≤placeR pos (r.take i) then wrap64 (placeR pos (r.take i) + 1) else if u.k=2∧u.p<placeR pos (r.take i) then wrap64 (placeR pos (r.take i) - 1) else placeR pos (r.take i):=by
 induction r generalizing pos i with
 | nil=>cases h
 | cons v r ih =>
  cases i with
  | zero=>injection h with h;subst h;rfl
  | succ i=>exact ih _ i (by simpa using h)
end Pl
end Go.Proofs.YtlgdcelgkiipaaaGreat
namespace Go.Proofs.YtlgdcelgkiipaaaGreat.Rv
open Go Go.RowKit
section
variable {P:Program} {ops:Array Oper} {Q:Exit→Act→World→Prop} {md:Region.Mode}
def putAll:List Oper→(Nat→Value)→Nat→Act→Act
 | [],_,_,a=>a
 | o :: r,v,i,a=>putAll r v (i + 1) (a.put o.dst (v i))
def up (L:Nat→Bool) (i:Nat):Nat→Bool:=fun j=>if i=j then true else L j
def StepOk (P:Program) (ops:Array Oper) (Q:Exit→Act→World→Prop) (md:Region.Mode) (S:(Nat→Bool)→Act→World→Prop) (R:Nat→World→World→Prop) (F:Nat→Value→World→Prop) (a0:Act) (i:Nat) (o:Oper):Prop :=
 ∀ L a w,L i=false→S L a w →
  (∀ t,(∀ (j:Nat) (oj:Oper),ops[j]?=some oj→oj.dst≠some t)→a.eval (.tmp t)=a0.eval (.tmp t)) →
  (∀ e ∈ o.after,Region.binds md e=true→L e.on=true∧∀ (oj:Oper) (t:Nat),ops[e.on]?=some oj→oj.dst=some t→F e.on (a.eval (.tmp t)) w) →
  (Region.wanted o (yielded ops a.tmps)=true∧o.wp P a w (fun a' w'=>∃ v,a'=a.put o.dst v∧F i v w'∧S (up L i) (a.put o.dst v) w'∧R i w w') Q) ∨
  (Region.wanted o (yielded ops a.tmps)=false∧F i undef w∧S (up L i) (a.put o.dst undef) w)
def StepsOk (P:Program) (ops:Array Oper) (Q:Exit→Act→World→Prop) (md:Region.Mode) (S:(Nat→Bool)→Act→World→Prop) (R:Nat→World→World→Prop) (F:Nat→Value→World→Prop) (a0:Act):List Oper→Nat→Prop
 | [],_=>True
 | o :: r,i=>StepOk P ops Q md S R F a0 i o∧StepsOk P ops Q md S R F a0 r (i + 1)
theorem stepsOk_at {S:(Nat→Bool)→Act→World→Prop} {R:Nat→World→World→Prop} {F:Nat→Value→World→Prop} {a0:Act}:∀ (l:List Oper) (k j:Nat) (o:Oper),StepsOk P ops Q md S R F a0 l k→l[j]?=some o→StepOk P ops Q md S R F a0 (k + j) o
 | [],_,_,_,_,h=>by simp at h
 | x :: r,k,0,o,hs,h=>by
  simp at h;subst h;exact hs.1
 | x :: r,k,j + 1,o,hs,h=>by
  have:=stepsOk_at r (k + 1) j o hs.2 (by simpa using h)
  rwa [show k + 1 + j=k + (j + 1) by omega] at this
def neat (md:Region.Mode) (ops:Array Oper) (n:Nat):Bool :=
 (List.range ops.size).all fun i=>((ops[i]?).map fun o =>
  (match o.dst with | some t=>decide (t<n) | none=>true) &&
  (o.after.all fun e=>!Region.binds md e || decide (e.on<i)) &&
  ((List.range ops.size).all fun j=>decide (i=j) || ((ops[j]?).map fun o'=>o.dst.isNone || o.dst != o'.dst).getD true)).getD true
theorem neat_spec {n:Nat} (h:neat md ops n=true) {i:Nat} {o:Oper} (hi:ops[i]?=some o) :
  (∀ t,o.dst=some t→t<n)∧(∀ e ∈ o.after,Region.binds md e=true→e.on<i)∧(∀ (j:Nat) (o':Oper) (t:Nat),ops[j]?=some o'→o.dst=some t→o'.dst=some t→i=j):=by
 have hl:i<ops.size:=(Array.getElem?_eq_some_iff.1 hi).1
 have h1:=List.all_eq_true.1 h i (List.mem_range.2 hl)
 simp only [hi,Option.map_some,Option.getD_some,Bool.and_eq_true] at h1
 obtain ⟨⟨h2,h3⟩,h4⟩:=h1
 refine ⟨fun t ht=>?_,fun e he hb=>?_,fun j o' t hj ht ht'=>?_⟩
 ·rw [ht] at h2;simpa using h2
 ·have:=(Array.all_eq_true_iff_forall_mem.1 h3) e he
  simpa [hb] using this
 ·have hlj:j<ops.size:=(Array.getElem?_eq_some_iff.1 hj).1
  have:=List.all_eq_true.1 h4 j (List.mem_range.2 hlj)
  simpa [hj,ht,ht'] using this
structure Inv (ops:Array Oper) (S:(Nat→Bool)→Act→World→Prop) (F:Nat→Value→World→Prop) (a0:Act) (listed:Array Bool) (a:Act) (w:World):Prop where
 size:listed.size=ops.size
 s:S (fun i=>listed.getD i false) a w
 len:a.tmps.size=a0.tmps.size
 defers:a.defers=a0.defers
 old:∀ t,(∀ (i:Nat) (o:Oper),ops[i]?=some o→listed.getD i false=true→o.dst≠some t)→a.eval (.tmp t)=a0.eval (.tmp t)
 new:∀ (i:Nat) (o:Oper) (t:Nat),ops[i]?=some o→listed.getD i false=true→o.dst=some t→F i (a.eval (.tmp t)) w
theorem eval_put (a:Act) (d t:Nat) (v:Value) (h:d<a.tmps.size):(a.put (some d) v).eval (.tmp t)=if t=d then v else a.eval (.tmp t):=by
 simp only [Act.eval,Act.put,Array.getD_eq_getD_getElem?,Array.getElem?_setIfInBounds]
 by_cases e:d=t
 ·subst e;simp [h]
 ·simp [e,Ne.symm e]
theorem getD_set (l:Array Bool) (i j:Nat) (hi:i<l.size):(l.setIfInBounds i true).getD j false=if i=j then true else l.getD j false:=by
 simp only [Array.getD_eq_getD_getElem?,Array.getElem?_setIfInBounds]
 by_cases e:i=j
 ·subst e;simp [hi]
 ·simp [e]
def left (ops:Array Oper) (listed:Array Bool):Nat:=((List.range ops.size).filter fun i=>!listed.getD i false).length
theorem filter_lt {l:List Nat} {p q:Nat→Bool} (h:∀ x,q x=true→p x=true) {i:Nat} (hi:i ∈ l) (hp:p i=true) (hq:q i=false):(l.filter q).length<(l.filter p).length:=by
 induction l with
 | nil=>cases hi
 | cons x r ih =>
  have hle:(r.filter q).length≤(r.filter p).length:=by
   clear ih hi
   induction r with
   | nil=>simp
   | cons y r ih2 =>
    by_cases hqy:q y=true
    ·rw [List.filter_cons_of_pos hqy,List.filter_cons_of_pos (h y hqy)];simp;exact ih2
    ·rw [List.filter_cons_of_neg hqy]
     by_cases hpy:p y=true
     ·rw [List.filter_cons_of_pos hpy];simp;omega
     ·rw [List.filter_cons_of_neg hpy];exact ih2
  rcases List.mem_cons.1 hi with rfl | hi
  ·rw [List.filter_cons_of_neg (by simp [hq]),List.filter_cons_of_pos hp];simp;omega
  ·by_cases hqx:q x=true
   ·rw [List.filter_cons_of_pos hqx,List.filter_cons_of_pos (h x hqx)];simp;exact ih hi
   ·rw [List.filter_cons_of_neg hqx]
    by_cases hpx:p x=true
    ·rw [List.filter_cons_of_pos hpx];simp;omega
    ·rw [List.filter_cons_of_neg hpx];exact ih hi
variable {S:(Nat→Bool)→Act→World→Prop} {R:Nat→World→World→Prop} {F:Nat→Value→World→Prop} {a0:Act}
theorem put_len (a:Act) (d:Option Nat) (v:Value):(a.put d v).tmps.size=a.tmps.size:=by cases d <;> simp [Act.put]
theorem put_defers (a:Act) (d:Option Nat) (v:Value):(a.put d v).defers=a.defers:=by cases d <;> rfl
theorem inv_put {listed:Array Bool} {a:Act} {w w':World} {i:Nat} {o:Oper} {v:Value} (hn:neat md ops a0.tmps.size=true)
  (h:Inv ops S F a0 listed a w) (hi:ops[i]?=some o)
  (hF:F i v w') (hS:S (up (fun j=>listed.getD j false) i) (a.put o.dst v) w') (hst:∀ j x,i≠j→F j x w→F j x w'):Inv ops S F a0 (listed.setIfInBounds i true) (a.put o.dst v) w':=by
 have hl:i<listed.size:=by rw [h.size];exact (Array.getElem?_eq_some_iff.1 hi).1
 obtain ⟨hin,_,hone⟩:=neat_spec hn hi
 have hup:(fun j=>(listed.setIfInBounds i true).getD j false)=up (fun j=>listed.getD j false) i:=by
  funext j;rw [getD_set _ _ _ hl];rfl
 refine ⟨by rw [Array.size_setIfInBounds];exact h.size,by rw [hup];exact hS,by rw [put_len];exact h.len,by rw [put_defers];exact h.defers,fun t ht=>?_,fun j oj t hj hlj htj=>?_⟩
 ·have hne:o.dst≠some t:=ht i o hi (by rw [getD_set _ _ _ hl,if_pos rfl])
  have hev:(a.put o.dst v).eval (.tmp t)=a.eval (.tmp t):=by
   cases hd:o.dst with
   | none=>rfl
   | some d =>
    rw [eval_put a d t v (by rw [h.len];exact hin d hd),if_neg (fun e=>hne (by rw [hd,e]))]
  rw [hev]
  exact h.old t fun j oj hj hlj=>ht j oj hj (by rw [getD_set _ _ _ hl];split <;> simp_all)
 ·by_cases hij:i=j
  ·subst hij
   obtain rfl:oj=o:=Option.some.inj (hj.symm.trans hi)
   rw [htj,eval_put a t t v (by rw [h.len];exact hin t htj),if_pos rfl]
   exact hF
  ·rw [getD_set _ _ _ hl,if_neg hij] at hlj
   have hev:(a.put o.dst v).eval (.tmp t)=a.eval (.tmp t):=by
    cases hd:o.dst with
    | none=>rfl
    | some d =>
     rw [eval_put a d t v (by rw [h.len];exact hin d hd),if_neg (fun e=>?_)]
     exact hij (hone j oj t hj (by rw [hd,e]) htj)
   rw [hev]
   exact hst j _ hij (h.new j oj t hj hlj htj)
theorem inv_step {listed:Array Bool} {a:Act} {w:World} {i:Nat} (hn:neat md ops a0.tmps.size=true)
  (hst:∀ i k v w w',i≠k→F i v w→R k w w'→F i v w') (hs:StepsOk P ops Q md S R F a0 ops.toList 0)
  (h:Inv ops S F a0 listed a w) (hi:i ∈ Region.ready md ops listed) :
  wpOp P ops Q i (fun a' w'=>Inv ops S F a0 (listed.setIfInBounds i true) a' w') a w:=by
 obtain ⟨_,o,ho,hall⟩:=mem_ready.1 hi
 have hso:=stepsOk_at ops.toList 0 i o hs (by simpa using ho)
 rw [Nat.zero_add] at hso
 have hun:listed.getD i false=false:=by
  have h1:=(mem_ready.1 hi).1
  have hi2:i<listed.size:=by rw [h.size];exact (Array.getElem?_eq_some_iff.1 ho).1
  rw [Array.getD_eq_getD_getElem?,Array.getElem?_eq_getElem hi2] at h1 ⊢
  exact h1
 have:=hso (fun j=>listed.getD j false) a w hun h.s (fun t ht=>h.old t fun j oj hj _=>ht j oj hj) (fun e he hb=>⟨hall e he hb,fun oj t hj ht=>h.new e.on oj t hj (hall e he hb) ht⟩)
 unfold wpOp
 simp only [ho]
 rcases this with ⟨hw,hwp⟩ | ⟨hw,hF,hSn⟩
 ·rw [if_pos hw]
  refine .inl (Oper.wp_mono (fun a' w' ⟨v,ha,h1,h2,h3⟩=>?_) hwp)
  subst ha
  exact inv_put hn h ho h1 h2 (fun j x hij hx=>hst j i x _ _ (Ne.symm hij) hx h3)
 ·rw [if_neg (by simp [hw])]
  exact inv_put hn h ho hF hSn (fun j x _ hx=>hx)
theorem all_listed {listed:Array Bool} (hn:neat md ops a0.tmps.size=true) (hsz:listed.size=ops.size) (hr:Region.ready md ops listed=[]):∀ (i:Nat) (o:Oper),ops[i]?=some o→listed.getD i false=true:=by
 intro i
 induction i using Nat.strongRecOn with
 | _ i ih =>
  intro o ho
  cases hc:listed.getD i false with
  | true=>rfl
  | false =>
   exfalso
   have hl:i<listed.size:=by rw [hsz];exact (Array.getElem?_eq_some_iff.1 ho).1
   have:i ∈ Region.ready md ops listed:=by
    refine mem_ready.2 ⟨?_,o,ho,fun e he hb=>?_⟩
    ·rw [Array.getD_eq_getD_getElem?,Array.getElem?_eq_getElem hl] at hc ⊢;exact hc
    ·have hlt:=(neat_spec hn ho).2.1 e he hb
     have hle:e.on<ops.size:=by have:=(Array.getElem?_eq_some_iff.1 ho).1;omega
     exact ih e.on hlt ops[e.on] (Array.getElem?_eq_getElem hle)
   rw [hr] at this
   cases this
theorem act_ext {a b:Act} (h1:a.tmps.size=b.tmps.size) (h2:a.defers=b.defers) (h3:∀ t,a.eval (.tmp t)=b.eval (.tmp t)):a=b:=by
 obtain ⟨ta,da⟩:=a
 obtain ⟨tb,db⟩:=b
 simp only at h1 h2
 subst h2
 have:ta=tb:=by
  apply Array.ext h1
  intro i hi1 hi2
  have:=h3 i
  simpa [Act.eval,Array.getD_eq_getD_getElem?,hi1,hi2] using this
 rw [this]
theorem putAll_same:∀ (l:List Oper) (v:Nat→Value) (k:Nat) (a b:Act),a.tmps.size=b.tmps.size→a.defers=b.defers→(∀ o ∈ l,∀ t,o.dst=some t→t<a.tmps.size) →
  (∀ t,(∀ o ∈ l,o.dst≠some t)→a.eval (.tmp t)=b.eval (.tmp t))→putAll l v k a=putAll l v k b
 | [],_,_,a,b,h1,h2,_,h3=>act_ext h1 h2 fun t=>h3 t (fun o ho=>by cases ho)
 | o :: r,v,k,a,b,h1,h2,hin,h3=>by
  refine putAll_same r v (k + 1) _ _ (by rw [put_len,put_len];exact h1) (by rw [put_defers,put_defers];exact h2) (fun x hx t ht=>by rw [put_len];exact hin x (List.mem_cons_of_mem _ hx) t ht) fun t ht=>?_
  cases hd:o.dst with
  | none =>
   refine h3 t fun x hx=>?_
   rcases List.mem_cons.1 hx with rfl | hx
   ·rw [hd];simp
   ·exact ht x hx
  | some d =>
   have hlt:=hin o (List.mem_cons_self ..) d hd
   rw [eval_put a d t _ hlt,eval_put b d t _ (by rw [← h1];exact hlt)]
   by_cases e:t=d
   ·rw [if_pos e,if_pos e]
   ·rw [if_neg e,if_neg e]
    refine h3 t fun x hx=>?_
    rcases List.mem_cons.1 hx with rfl | hx
    ·rw [hd];exact fun e2=>e (Option.some.inj e2).symm
    ·exact ht x hx
theorem putAll_id:∀ (l:List Oper) (v:Nat→Value) (k:Nat) (a:Act),(∀ o ∈ l,∀ t,o.dst=some t→t<a.tmps.size)→(∀ (j:Nat) (o:Oper) (t:Nat),l[j]?=some o→o.dst=some t→a.eval (.tmp t)=v (k + j))→putAll l v k a=a
 | [],_,_,_,_,_=>rfl
 | o :: r,v,k,a,hin,h=>by
  have e:a.put o.dst (v k)=a:=by
   cases hd:o.dst with
   | none=>rfl
   | some d =>
    refine act_ext (put_len _ _ _) (put_defers _ _ _) fun t=>?_
    rw [eval_put a d t _ (hin o (List.mem_cons_self ..) d hd)]
    split
    ·rename_i e;subst e;exact (h 0 o t rfl hd).symm
    ·rfl
  rw [putAll,e]
  exact putAll_id r v (k + 1) a (fun x hx=>hin x (List.mem_cons_of_mem _ hx)) fun j x t hj ht=>by
   rw [h (j + 1) x t (by simpa using hj) ht,show k + (j + 1)=k + 1 + j by omega]
theorem wpAny_inv (hn:neat md ops a0.tmps.size=true) (hst:∀ i k v w w',i≠k→F i v w→R k w w'→F i v w') (hs:StepsOk P ops Q md S R F a0 ops.toList 0)
  (fin:∀ (L:Nat→Bool) (v:Nat→Value) (w:World),S L (putAll ops.toList v 0 a0) w→(∀ i,i<ops.size→L i=true)→(∀ (i:Nat) (o:Oper) (t:Nat),ops[i]?=some o→o.dst=some t→F i (v i) w∧(putAll ops.toList v 0 a0).eval (.tmp t)=v i)→Q .normal (putAll ops.toList v 0 a0) w) :
  ∀ (fuel:Nat) (listed:Array Bool) (a:Act) (w:World),left ops listed≤fuel→Inv ops S F a0 listed a w→wpAny P md ops Q fuel listed a w:=by
 have done:∀ (listed:Array Bool) (a:Act) (w:World),Inv ops S F a0 listed a w→Region.ready md ops listed=[]→Q .normal a w:=by
  intro listed a w h hr
  have hall:=all_listed hn h.size hr
  have hlt:∀ o ∈ ops.toList,∀ t,o.dst=some t→t<a0.tmps.size:=fun o ho t ht=>by
   obtain ⟨i,hi,e⟩:=List.getElem_of_mem ho
   exact (neat_spec hn (i:=i) (o:=o) (by rw [← Array.getElem?_toList,List.getElem?_eq_getElem hi,e])).1 t ht
  have e:putAll ops.toList (fun i=>a.eval (.tmp (((ops[i]?).bind (·.dst)).getD 0))) 0 a0=a:=by
   rw [putAll_same ops.toList _ 0 a0 a h.len.symm h.defers.symm hlt (fun t ht=>(h.old t fun i o hi _=>ht o (by rw [Array.mem_toList_iff];exact Array.mem_of_getElem? hi)).symm),
    putAll_id ops.toList _ 0 a (fun o ho t ht=>by rw [h.len];exact hlt o ho t ht) (fun j o t hj ht=>by
     have hj':ops[j]?=some o:=by simpa using hj
     rw [Nat.zero_add];simp only [hj',Option.bind_some,ht,Option.getD_some])]
  have:=fin (fun i=>listed.getD i false) (fun i=>a.eval (.tmp (((ops[i]?).bind (·.dst)).getD 0))) w (by rw [e];exact h.s) (fun i hi=>hall i ops[i] (Array.getElem?_eq_getElem hi)) fun i o t hi ht=>by
   rw [e]
   simp only [hi,Option.bind_some,ht,Option.getD_some,and_true]
   exact h.new i o t hi (hall i o hi) ht
  rw [e] at this
  exact this
 intro fuel
 induction fuel with
 | zero =>
  intro listed a w hl h
  have hr:Region.ready md ops listed=[]:=by
   refine List.eq_nil_iff_forall_not_mem.2 fun i hi=>?_
   obtain ⟨hun,o,ho,_⟩:=mem_ready.1 hi
   have h0:left ops listed=0:=by omega
   have hl0:=List.eq_nil_of_length_eq_zero h0
   have hi2:i<listed.size:=by rw [h.size];exact (Array.getElem?_eq_some_iff.1 ho).1
   have:i ∈ (List.range ops.size).filter fun i=>!listed.getD i false:=by
    refine List.mem_filter.2 ⟨List.mem_range.2 (by rw [← h.size];exact hi2),?_⟩
    rw [Array.getD_eq_getD_getElem?,Array.getElem?_eq_getElem hi2] at hun ⊢
    simp at hun ⊢;exact hun
   rw [hl0] at this
   cases this
  exact ⟨hr,done listed a w h hr⟩
 | succ fuel ih =>
  intro listed a w hl h
  refine ⟨fun hr=>done listed a w h hr,fun i hi=>?_⟩
  refine wpOp_mono (fun a' w' h'=>ih _ a' w' ?_ h') (inv_step hn hst hs h hi)
  obtain ⟨hun,o,ho,_⟩:=mem_ready.1 hi
  have hi2:i<listed.size:=by rw [h.size];exact (Array.getElem?_eq_some_iff.1 ho).1
  have hlt:left ops (listed.setIfInBounds i true)<left ops listed:=by
   refine filter_lt (i:=i) (fun x hx=>?_) (List.mem_range.2 (by rw [← h.size];exact hi2)) ?_ ?_
   ·rw [getD_set _ _ _ hi2] at hx
    split at hx
    ·simp at hx
    ·exact hx
   ·rw [Array.getD_eq_getD_getElem?,Array.getElem?_eq_getElem hi2] at hun ⊢
    simp at hun ⊢;exact hun
   ·rw [getD_set _ _ _ hi2,if_pos rfl];rfl
  omega
theorem wp_region_inv {id:Nat} {l:List Oper} {w:World} (S:(Nat→Bool)→Act→World→Prop) (R:Nat→World→World→Prop) (F:Nat→Value→World→Prop) (hm:P.follows .mixedOrders=true) (hn:neat .any l.toArray a0.tmps.size=true)
  (hst:∀ i k v w w',i≠k→F i v w→R k w w'→F i v w') (hS:S (fun _=>false) a0 w.drew) (hs:StepsOk P l.toArray Q .any S R F a0 l 0)
  (fin:∀ (L:Nat→Bool) (v:Nat→Value) (w:World),S L (putAll l v 0 a0) w→(∀ i,i<l.length→L i=true)→(∀ (i:Nat) (o:Oper) (t:Nat),l.toArray[i]?=some o→o.dst=some t→F i (v i) w∧(putAll l v 0 a0).eval (.tmp t)=v i)→Q .normal (putAll l v 0 a0) w) :
  (Code.region id l.toArray true).wp P Q a0 w:=by
 refine wp_region_any hm (wpAny_inv (S:=S) (R:=R) (F:=F) hn hst (by simpa using hs) (by simpa using fin) _ _ a0 _ ?_ ⟨by simp,?_,rfl,rfl,fun _ _=>rfl,fun i o t _ hl _=>?_⟩)
 ·unfold left
  exact Nat.le_trans (List.length_filter_le _ _) (by simp)
 ·have:(fun i=>(Array.replicate l.toArray.size false).getD i false)=fun _=>false:=by
   funext i;rw [Array.getD_eq_getD_getElem?,Array.getElem?_replicate];split <;> rfl
  rw [this];exact hS
 ·rw [Array.getD_eq_getD_getElem?,Array.getElem?_replicate] at hl
  split at hl <;> simp at hl
inductive Wd where
 | is (x:Value)
 | pred (p:Value→World→Prop)
 | any
def Wd.ok:Wd→Value→World→Prop
 | .is x,v,_=>v=x
 | .pred p,v,w=>p v w
 | .any,_,_=>True
def Wd.at (l:List Wd) (i:Nat):Value→World→Prop:=(l.getD i .any).ok
theorem Wd.stays (l:List Wd) (R:Nat→World→World→Prop) (h:∀ i p,l[i]?=some (Wd.pred p)→∀ k v w w',i≠k→p v w→R k w w'→p v w'):∀ i k v w w',i≠k→Wd.at l i v w→R k w w'→Wd.at l i v w':=by
 intro i k v w w' hne hh hr
 unfold Wd.at at *
 cases hx:l.getD i .any with
 | is x=>rw [hx] at hh;exact hh
 | any=>trivial
 | pred p =>
  rw [hx] at hh
  refine h i p ?_ k v w w' hne hh hr
  rw [List.getD_eq_getElem?_getD] at hx
  cases hy:l[i]? with
  | none=>rw [hy] at hx;cases hx
  | some z=>rw [hy] at hx;simp at hx;subst hx;rfl
theorem nw {l:List Oper} {t:Nat} (h:(l.all fun o=>o.dst != some t)=true):∀ (j:Nat) (oj:Oper),l.toArray[j]?=some oj→oj.dst≠some t:=by
 intro j oj hj
 have hj':l[j]?=some oj:=by simpa using hj
 have:=List.all_eq_true.1 h oj (List.mem_of_getElem? hj')
 simpa using this
theorem wanted_none {o:Oper} {y:Nat→Option Bool} (hg:o.guard=none):Region.wanted o y=true:=by simp [Region.wanted,hg]
theorem wanted_some {o:Oper} {l:List Oper} {a:Act} {g:Nat} {b:Bool} {og:Oper} {t:Nat} (hg:o.guard=some (g,b)) (ho:l.toArray[g]?=some og) (ht:og.dst=some t) (hv:a.eval (.tmp t)=.bool b):Region.wanted o (yielded l.toArray a.tmps)=true:=by
 have hy:yielded l.toArray a.tmps g=some b:=by
  unfold yielded
  simp only [ho,Option.bind_some,ht]
  simp only [Act.eval,Array.getD_eq_getD_getElem?] at hv
  cases h:a.tmps[t]? with
  | none=>rw [h] at hv;simp [undef] at hv
  | some x=>rw [h] at hv;simp at hv;rw [hv]
 simp [Region.wanted,hg,hy]
theorem unwanted {o:Oper} {l:List Oper} {a:Act} {g:Nat} {b:Bool} {og:Oper} {t:Nat} (hg:o.guard=some (g,b)) (ho:l.toArray[g]?=some og) (ht:og.dst=some t) (hv:a.eval (.tmp t)=.bool (!b)):Region.wanted o (yielded l.toArray a.tmps)=false:=by
 have hy:yielded l.toArray a.tmps g=some (!b):=by
  unfold yielded
  simp only [ho,Option.bind_some,ht]
  simp only [Act.eval,Array.getD_eq_getD_getElem?] at hv
  cases h:a.tmps[t]? with
  | none=>rw [h] at hv;simp [undef] at hv
  | some x=>rw [h] at hv;simp at hv;rw [hv]
 cases b <;> simp [Region.wanted,hg,hy]
theorem slot {a:Act} {t:Nat} {x:Value} (h:a.eval (.tmp t)=x):a.tmps[t]?.getD undef=x:=by rw [← h];simp [Act.eval]
def Does (P:Program) (ops:Array Oper) (Q:Exit→Act→World→Prop) (S:(Nat→Bool)→Act→World→Prop) (R:Nat→World→World→Prop) (F:Nat→Value→World→Prop) (i:Nat) (o:Oper) (L:Nat→Bool) (a:Act) (w:World):Prop :=
 (Region.wanted o (yielded ops a.tmps)=true∧o.wp P a w (fun a' w'=>∃ v,a'=a.put o.dst v∧F i v w'∧S (up L i) (a.put o.dst v) w'∧R i w w') Q) ∨
  (Region.wanted o (yielded ops a.tmps)=false∧F i undef w∧S (up L i) (a.put o.dst undef) w)
variable {L:Nat→Bool} {i:Nat} {o:Oper} {a:Act} {w:World} {x:Value}
theorem does_pure (hw:Region.wanted o (yielded ops a.tmps)=true) (hrun:(execOp a.eval o).run P w=.ok (.value x) w) (hF:F i x w) (hS:S (up L i) (a.put o.dst x) w) (hR:R i w w):Does P ops Q S R F i o L a w :=
 .inl ⟨hw,by unfold Oper.wp;rw [hrun];exact ⟨x,rfl,hF,hS,hR⟩⟩
theorem does_run {w':World} (hw:Region.wanted o (yielded ops a.tmps)=true) (hrun:(execOp a.eval o).run P w=.ok (.value x) w') (hF:F i x w') (hS:S (up L i) (a.put o.dst x) w') (hR:R i w w'):Does P ops Q S R F i o L a w :=
 .inl ⟨hw,by unfold Oper.wp;rw [hrun];exact ⟨x,rfl,hF,hS,hR⟩⟩
theorem does_skip {w':World} (hd:o.dst=none) (hw:Region.wanted o (yielded ops a.tmps)=true) (hrun:(execOp a.eval o).run P w=.ok .skip w') (hF:F i undef w') (hS:S (up L i) a w') (hR:R i w w'):Does P ops Q S R F i o L a w :=
 .inl ⟨hw,by unfold Oper.wp;rw [hrun];exact ⟨undef,by rw [hd],hF,by rw [hd];exact hS,hR⟩⟩
theorem does_call {f:FuncId} {args:Array Value} (hw:Region.wanted o (yielded ops a.tmps)=true) (hrun:(execOp a.eval o).run P w=.ok (.enter f args) w)
  (hc:Calls P f args w fun e w'=>∃ v,e=.returned v∧F i v w'∧S (up L i) (a.put o.dst v) w'∧R i w w'):Does P ops Q S R F i o L a w :=
 .inl ⟨hw,by
  unfold Oper.wp;rw [hrun]
  exact hc.mono fun e w' ⟨v,he,h1,h2,h3⟩=>by subst he;exact ⟨v,rfl,h1,h2,h3⟩⟩
end
end Go.Proofs.YtlgdcelgkiipaaaGreat.Rv
