/-
  A rule for a region that draws its order: each operation has a word ('F i') on what it leaves in its slot; the words stay true while memory only grows; each operation, where those that it waits for have come up, leaves its word true. Then, whatever order is picked, all words are true at the end. Nothing of a program is named here.
  Parts of rows of units; append where an operation's guard is met; what WeaveParts' frame opens. Conditions: those that each states.
  Runs of a row of units in plain words, ahead of the code of layer 8: what follows what, the runs, their units back, of two rows behind each other. Nothing of a program is named here. Conditions: those that each lemma states.
  What is typed, erased, replaced, and a row without its Nops, in plain words, ahead of the code of layer 8. Nothing of a program is named here. Conditions: those that each lemma states.
  Words for layer 8: a unit as a value, its contracts (utf.May, unit.May, unit.Grows), comparison of units and Ids, how they come out of what can be read as data, rows of units in memory. No conditions but those that each states.
  slices.Clone at rows of units, over the words of layer 8, for rows of any length that memory holds (layer 10 bounds no row). Conditions: those that each states.
  unit.Fits, weave.Long at rows of units, over the words of layer 8, for rows of any length that memory holds (layer 10 bounds no row). Conditions: those that each states.
  Operations in memory (an Id, a row of units in memory of its own, whether undone), and how rows of them come out of what can be read as data: the words that layer 10 starts from. The operation's own type is left open. Conditions: those that each states.
-/
import Derived.Test.YtlgdcelgkiipaaaGreatOc08
import Derived.Test.YtlgdcelgkiipaaaGreatOc05
import Derived.Test.YtlgdcelgkiipaaaGreatOc02
import Derived.Test.YtlgdcelgkiipaaaGreatOc07
import Derived.Test.YtlgdcelgkiipaaaGreatOc00
import Derived.Test.YtlgdcelgkiipaaaGreatOc03
import Derived.Test.YtlgdcelgkiipaaaGreatOc01
import Derived.Orders
import Derived.Calls
import Derived.Below
import Derived.WalkKit
import Derived.Carry
import Derived.WideMake
import Derived.Handy
import Derived.Laws.StructEq
import Derived.Deep.Slices
import Derived.Deep.Fields
import Derived.ChangeSame
import Derived.WideShapes
import Derived.Deep.RegionHeld3
import Derived.Lib.SlBytesConst
import Derived.SizedLaws
import Derived.ChangeArms
set_option maxRecDepth 100000
set_option linter.unusedVariables false
namespace Go.Proofs.YtlgdcelgkiipaaaGreat.Rg
open Go Go.RowKit
section
variable {P:Program} {ops:Array Oper} {Q:Exit→Act→World→Prop} {md:Region.Mode}
def putAll:List Oper→(Nat→Value)→Nat→Act→Act
 | [],_,_,a=>a
 | o :: r,v,i,a=>putAll r v (i + 1) (a.put o.dst (v i))
def StepOk (P:Program) (ops:Array Oper) (Q:Exit→Act→World→Prop) (md:Region.Mode) (S:World→Prop) (F:Nat→Value→World→Prop) (a0:Act) (i:Nat) (o:Oper):Prop :=
 ∀ a w,S w →
  (∀ t,(∀ (j:Nat) (oj:Oper),ops[j]?=some oj→oj.dst≠some t)→a.eval (.tmp t)=a0.eval (.tmp t)) →
  (∀ e ∈ o.after,Region.binds md e=true→∀ (oj:Oper) (t:Nat),ops[e.on]?=some oj→oj.dst=some t→F e.on (a.eval (.tmp t)) w) →
  (Region.wanted o (yielded ops a.tmps)=true∧o.wp P a w (fun a' w'=>∃ v,a'=a.put o.dst v∧F i v w'∧S w'∧Below w.heap.size w w') Q) ∨
  (Region.wanted o (yielded ops a.tmps)=false∧F i undef w)
def StepsOk (P:Program) (ops:Array Oper) (Q:Exit→Act→World→Prop) (md:Region.Mode) (S:World→Prop) (F:Nat→Value→World→Prop) (a0:Act):List Oper→Nat→Prop
 | [],_=>True
 | o :: r,i=>StepOk P ops Q md S F a0 i o∧StepsOk P ops Q md S F a0 r (i + 1)
theorem stepsOk_at {S:World→Prop} {F:Nat→Value→World→Prop} {a0:Act}:∀ (l:List Oper) (k j:Nat) (o:Oper),StepsOk P ops Q md S F a0 l k→l[j]?=some o→StepOk P ops Q md S F a0 (k + j) o
 | [],_,_,_,_,h=>by simp at h
 | x :: r,k,0,o,hs,h=>by
  simp at h;subst h;exact hs.1
 | x :: r,k,j + 1,o,hs,h=>by
  have:=stepsOk_at r (k + 1) j o hs.2 (by simpa using h)
  rwa [show k + 1 + j=k + (j + 1) by omega] at this
def neat (md:Region.Mode) (ops:Array Oper) (n:Nat):Bool :=
 (List.range ops.size).all fun i=>((ops[i]?).map fun o =>
  (match o.dst with | some t=>decide (t<n) | none=>true) &&
  (o.after.all fun e=>!Region.binds md e || decide (e.on<i)) &&
  ((List.range ops.size).all fun j=>decide (i=j) || ((ops[j]?).map fun o'=>o.dst.isNone || o.dst != o'.dst).getD true)).getD true
theorem neat_spec {n:Nat} (h:neat md ops n=true) {i:Nat} {o:Oper} (hi:ops[i]?=some o) :
  (∀ t,o.dst=some t→t<n)∧(∀ e ∈ o.after,Region.binds md e=true→e.on<i)∧(∀ (j:Nat) (o':Oper) (t:Nat),ops[j]?=some o'→o.dst=some t→o'.dst=some t→i=j):=by
 have hl:i<ops.size:=(Array.getElem?_eq_some_iff.1 hi).1
 have h1:=List.all_eq_true.1 h i (List.mem_range.2 hl)
 simp only [hi,Option.map_some,Option.getD_some,Bool.and_eq_true] at h1
 obtain ⟨⟨h2,h3⟩,h4⟩:=h1
 refine ⟨fun t ht=>?_,fun e he hb=>?_,fun j o' t hj ht ht'=>?_⟩
 ·rw [ht] at h2;simpa using h2
 ·have:=(Array.all_eq_true_iff_forall_mem.1 h3) e he
  simpa [hb] using this
 ·have hlj:j<ops.size:=(Array.getElem?_eq_some_iff.1 hj).1
  have:=List.all_eq_true.1 h4 j (List.mem_range.2 hlj)
  simpa [hj,ht,ht'] using this
structure Inv (ops:Array Oper) (S:World→Prop) (F:Nat→Value→World→Prop) (a0:Act) (listed:Array Bool) (a:Act) (w:World):Prop where
 size:listed.size=ops.size
 s:S w
 len:a.tmps.size=a0.tmps.size
 defers:a.defers=a0.defers
 old:∀ t,(∀ (i:Nat) (o:Oper),ops[i]?=some o→listed.getD i false=true→o.dst≠some t)→a.eval (.tmp t)=a0.eval (.tmp t)
 new:∀ (i:Nat) (o:Oper) (t:Nat),ops[i]?=some o→listed.getD i false=true→o.dst=some t→F i (a.eval (.tmp t)) w
theorem eval_put (a:Act) (d t:Nat) (v:Value) (h:d<a.tmps.size):(a.put (some d) v).eval (.tmp t)=if t=d then v else a.eval (.tmp t):=by
 simp only [Act.eval,Act.put,Array.getD_eq_getD_getElem?,Array.getElem?_setIfInBounds]
 by_cases e:d=t
 ·subst e;simp [h]
 ·simp [e,Ne.symm e]
theorem getD_set (l:Array Bool) (i j:Nat) (hi:i<l.size):(l.setIfInBounds i true).getD j false=if i=j then true else l.getD j false:=by
 simp only [Array.getD_eq_getD_getElem?,Array.getElem?_setIfInBounds]
 by_cases e:i=j
 ·subst e;simp [hi]
 ·simp [e]
def left (ops:Array Oper) (listed:Array Bool):Nat:=((List.range ops.size).filter fun i=>!listed.getD i false).length
theorem filter_lt {l:List Nat} {p q:Nat→Bool} (h:∀ x,q x=true→p x=true) {i:Nat} (hi:i ∈ l) (hp:p i=true) (hq:q i=false):(l.filter q).length<(l.filter p).length:=by
 induction l with
 | nil=>cases hi
 | cons x r ih =>
  have hle:(r.filter q).length≤(r.filter p).length:=by
   clear ih hi
   induction r with
   | nil=>simp
   | cons y r ih2 =>
    by_cases hqy:q y=true
    ·rw [List.filter_cons_of_pos hqy,List.filter_cons_of_pos (h y hqy)];simp;exact ih2
    ·rw [List.filter_cons_of_neg hqy]
     by_cases hpy:p y=true
     ·rw [List.filter_cons_of_pos hpy];simp;omega
     ·rw [List.filter_cons_of_neg hpy];exact ih2
  rcases List.mem_cons.1 hi with rfl | hi
  ·rw [List.filter_cons_of_neg (by simp [hq]),List.filter_cons_of_pos hp];simp;omega
  ·by_cases hqx:q x=true
   ·rw [List.filter_cons_of_pos hqx,List.filter_cons_of_pos (h x hqx)];simp;exact ih hi
   ·rw [List.filter_cons_of_neg hqx]
    by_cases hpx:p x=true
    ·rw [List.filter_cons_of_pos hpx];simp;omega
    ·rw [List.filter_cons_of_neg hpx];exact ih hi
variable {S:World→Prop} {F:Nat→Value→World→Prop} {a0:Act}
theorem put_len (a:Act) (d:Option Nat) (v:Value):(a.put d v).tmps.size=a.tmps.size:=by cases d <;> simp [Act.put]
theorem put_defers (a:Act) (d:Option Nat) (v:Value):(a.put d v).defers=a.defers:=by cases d <;> rfl
theorem inv_put {listed:Array Bool} {a:Act} {w w':World} {i:Nat} {o:Oper} {v:Value} (hn:neat md ops a0.tmps.size=true)
  (hst:∀ i v w w',F i v w→S w→Below w.heap.size w w'→F i v w') (h:Inv ops S F a0 listed a w) (hi:ops[i]?=some o)
  (hF:F i v w') (hS:S w') (hb:Below w.heap.size w w'):Inv ops S F a0 (listed.setIfInBounds i true) (a.put o.dst v) w':=by
 have hl:i<listed.size:=by rw [h.size];exact (Array.getElem?_eq_some_iff.1 hi).1
 obtain ⟨hin,_,hone⟩:=neat_spec hn hi
 refine ⟨by rw [Array.size_setIfInBounds];exact h.size,hS,by rw [put_len];exact h.len,by rw [put_defers];exact h.defers,fun t ht=>?_,fun j oj t hj hlj htj=>?_⟩
 ·have hne:o.dst≠some t:=ht i o hi (by rw [getD_set _ _ _ hl,if_pos rfl])
  have hev:(a.put o.dst v).eval (.tmp t)=a.eval (.tmp t):=by
   cases hd:o.dst with
   | none=>rfl
   | some d =>
    rw [eval_put a d t v (by rw [h.len];exact hin d hd),if_neg (fun e=>hne (by rw [hd,e]))]
  rw [hev]
  exact h.old t fun j oj hj hlj=>ht j oj hj (by rw [getD_set _ _ _ hl];split <;> simp_all)
 ·by_cases hij:i=j
  ·subst hij
   obtain rfl:oj=o:=Option.some.inj (hj.symm.trans hi)
   rw [htj,eval_put a t t v (by rw [h.len];exact hin t htj),if_pos rfl]
   exact hF
  ·rw [getD_set _ _ _ hl,if_neg hij] at hlj
   have hev:(a.put o.dst v).eval (.tmp t)=a.eval (.tmp t):=by
    cases hd:o.dst with
    | none=>rfl
    | some d =>
     rw [eval_put a d t v (by rw [h.len];exact hin d hd),if_neg (fun e=>?_)]
     exact hij (hone j oj t hj (by rw [hd,e]) htj)
   rw [hev]
   exact hst j _ w w' (h.new j oj t hj hlj htj) h.s hb
theorem inv_step {listed:Array Bool} {a:Act} {w:World} {i:Nat} (hn:neat md ops a0.tmps.size=true)
  (hst:∀ i v w w',F i v w→S w→Below w.heap.size w w'→F i v w') (hs:StepsOk P ops Q md S F a0 ops.toList 0)
  (h:Inv ops S F a0 listed a w) (hi:i ∈ Region.ready md ops listed) :
  wpOp P ops Q i (fun a' w'=>Inv ops S F a0 (listed.setIfInBounds i true) a' w') a w:=by
 obtain ⟨_,o,ho,hall⟩:=mem_ready.1 hi
 have hso:=stepsOk_at ops.toList 0 i o hs (by simpa using ho)
 rw [Nat.zero_add] at hso
 have:=hso a w h.s (fun t ht=>h.old t fun j oj hj _=>ht j oj hj) (fun e he hb oj t hj ht=>h.new e.on oj t hj (hall e he hb) ht)
 unfold wpOp
 simp only [ho]
 rcases this with ⟨hw,hwp⟩ | ⟨hw,hF⟩
 ·rw [if_pos hw]
  refine .inl (Oper.wp_mono (fun a' w' ⟨v,ha,h1,h2,h3⟩=>?_) hwp)
  subst ha
  exact inv_put hn hst h ho h1 h2 h3
 ·rw [if_neg (by simp [hw])]
  exact inv_put hn hst h ho hF h.s (Below.refl _ _)
theorem all_listed {listed:Array Bool} (hn:neat md ops a0.tmps.size=true) (hsz:listed.size=ops.size) (hr:Region.ready md ops listed=[]):∀ (i:Nat) (o:Oper),ops[i]?=some o→listed.getD i false=true:=by
 intro i
 induction i using Nat.strongRecOn with
 | _ i ih =>
  intro o ho
  cases hc:listed.getD i false with
  | true=>rfl
  | false =>
   exfalso
   have hl:i<listed.size:=by rw [hsz];exact (Array.getElem?_eq_some_iff.1 ho).1
   have:i ∈ Region.ready md ops listed:=by
    refine mem_ready.2 ⟨?_,o,ho,fun e he hb=>?_⟩
    ·rw [Array.getD_eq_getD_getElem?,Array.getElem?_eq_getElem hl] at hc ⊢;exact hc
    ·have hlt:=(neat_spec hn ho).2.1 e he hb
     have hle:e.on<ops.size:=by have:=(Array.getElem?_eq_some_iff.1 ho).1;omega
     exact ih e.on hlt ops[e.on] (Array.getElem?_eq_getElem hle)
   rw [hr] at this
   cases this
theorem act_ext {a b:Act} (h1:a.tmps.size=b.tmps.size) (h2:a.defers=b.defers) (h3:∀ t,a.eval (.tmp t)=b.eval (.tmp t)):a=b:=by
 obtain ⟨ta,da⟩:=a
 obtain ⟨tb,db⟩:=b
 simp only at h1 h2
 subst h2
 have:ta=tb:=by
  apply Array.ext h1
  intro i hi1 hi2
  have:=h3 i
  simpa [Act.eval,Array.getD_eq_getD_getElem?,hi1,hi2] using this
 rw [this]
theorem putAll_same:∀ (l:List Oper) (v:Nat→Value) (k:Nat) (a b:Act),a.tmps.size=b.tmps.size→a.defers=b.defers→(∀ o ∈ l,∀ t,o.dst=some t→t<a.tmps.size) →
  (∀ t,(∀ o ∈ l,o.dst≠some t)→a.eval (.tmp t)=b.eval (.tmp t))→putAll l v k a=putAll l v k b
 | [],_,_,a,b,h1,h2,_,h3=>act_ext h1 h2 fun t=>h3 t (fun o ho=>by cases ho)
 | o :: r,v,k,a,b,h1,h2,hin,h3=>by
  refine putAll_same r v (k + 1) _ _ (by rw [put_len,put_len];exact h1) (by rw [put_defers,put_defers];exact h2) (fun x hx t ht=>by rw [put_len];exact hin x (List.mem_cons_of_mem _ hx) t ht) fun t ht=>?_
  cases hd:o.dst with
  | none =>
   refine h3 t fun x hx=>?_
   rcases List.mem_cons.1 hx with rfl | hx
   ·rw [hd];simp
   ·exact ht x hx
  | some d =>
   have hlt:=hin o (List.mem_cons_self ..) d hd
   rw [eval_put a d t _ hlt,eval_put b d t _ (by rw [← h1];exact hlt)]
   by_cases e:t=d
   ·rw [if_pos e,if_pos e]
   ·rw [if_neg e,if_neg e]
    refine h3 t fun x hx=>?_
    rcases List.mem_cons.1 hx with rfl | hx
    ·rw [hd];exact fun e2=>e (Option.some.inj e2).symm
    ·exact ht x hx
theorem putAll_id:∀ (l:List Oper) (v:Nat→Value) (k:Nat) (a:Act),(∀ o ∈ l,∀ t,o.dst=some t→t<a.tmps.size)→(∀ (j:Nat) (o:Oper) (t:Nat),l[j]?=some o→o.dst=some t→a.eval (.tmp t)=v (k + j))→putAll l v k a=a
 | [],_,_,_,_,_=>rfl
 | o :: r,v,k,a,hin,h=>by
  have e:a.put o.dst (v k)=a:=by
   cases hd:o.dst with
   | none=>rfl
   | some d =>
    refine act_ext (put_len _ _ _) (put_defers _ _ _) fun t=>?_
    rw [eval_put a d t _ (hin o (List.mem_cons_self ..) d hd)]
    split
    ·rename_i e;subst e;exact (h 0 o t rfl hd).symm
    ·rfl
  rw [putAll,e]
  exact putAll_id r v (k + 1) a (fun x hx=>hin x (List.mem_cons_of_mem _ hx)) fun j x t hj ht=>by
   rw [h (j + 1) x t (by simpa using hj) ht,show k + (j + 1)=k + 1 + j by omega]
theorem wpAny_inv (hn:neat md ops a0.tmps.size=true) (hst:∀ i v w w',F i v w→S w→Below w.heap.size w w'→F i v w') (hs:StepsOk P ops Q md S F a0 ops.toList 0)
  (fin:∀ (v:Nat→Value) (w:World),S w→(∀ (i:Nat) (o:Oper) (t:Nat),ops[i]?=some o→o.dst=some t→F i (v i) w)→Q .normal (putAll ops.toList v 0 a0) w) :
  ∀ (fuel:Nat) (listed:Array Bool) (a:Act) (w:World),left ops listed≤fuel→Inv ops S F a0 listed a w→wpAny P md ops Q fuel listed a w:=by
 have done:∀ (listed:Array Bool) (a:Act) (w:World),Inv ops S F a0 listed a w→Region.ready md ops listed=[]→Q .normal a w:=by
  intro listed a w h hr
  have hall:=all_listed hn h.size hr
  have hlt:∀ o ∈ ops.toList,∀ t,o.dst=some t→t<a0.tmps.size:=fun o ho t ht=>by
   obtain ⟨i,hi,e⟩:=List.getElem_of_mem ho
   exact (neat_spec hn (i:=i) (o:=o) (by rw [← Array.getElem?_toList,List.getElem?_eq_getElem hi,e])).1 t ht
  have:=fin (fun i=>a.eval (.tmp (((ops[i]?).bind (·.dst)).getD 0))) w h.s fun i o t hi ht=>by
   simp only [hi,Option.bind_some,ht,Option.getD_some]
   exact h.new i o t hi (hall i o hi) ht
  rw [putAll_same ops.toList _ 0 a0 a h.len.symm h.defers.symm hlt (fun t ht=>(h.old t fun i o hi _=>ht o (by rw [Array.mem_toList_iff];exact Array.mem_of_getElem? hi)).symm),
   putAll_id ops.toList _ 0 a (fun o ho t ht=>by rw [h.len];exact hlt o ho t ht) (fun j o t hj ht=>by
    have hj':ops[j]?=some o:=by simpa using hj
    rw [Nat.zero_add];simp only [hj',Option.bind_some,ht,Option.getD_some])] at this
  exact this
 intro fuel
 induction fuel with
 | zero =>
  intro listed a w hl h
  have hr:Region.ready md ops listed=[]:=by
   refine List.eq_nil_iff_forall_not_mem.2 fun i hi=>?_
   obtain ⟨hun,o,ho,_⟩:=mem_ready.1 hi
   have h0:left ops listed=0:=by omega
   have hl0:=List.eq_nil_of_length_eq_zero h0
   have hi2:i<listed.size:=by rw [h.size];exact (Array.getElem?_eq_some_iff.1 ho).1
   have:i ∈ (List.range ops.size).filter fun i=>!listed.getD i false:=by
    refine List.mem_filter.2 ⟨List.mem_range.2 (by rw [← h.size];exact hi2),?_⟩
    rw [Array.getD_eq_getD_getElem?,Array.getElem?_eq_getElem hi2] at hun ⊢
    simp at hun ⊢;exact hun
   rw [hl0] at this
   cases this
  exact ⟨hr,done listed a w h hr⟩
 | succ fuel ih =>
  intro listed a w hl h
  refine ⟨fun hr=>done listed a w h hr,fun i hi=>?_⟩
  refine wpOp_mono (fun a' w' h'=>ih _ a' w' ?_ h') (inv_step hn hst hs h hi)
  obtain ⟨hun,o,ho,_⟩:=mem_ready.1 hi
  have hi2:i<listed.size:=by rw [h.size];exact (Array.getElem?_eq_some_iff.1 ho).1
  have hlt:left ops (listed.setIfInBounds i true)<left ops listed:=by
   refine filter_lt (i:=i) (fun x hx=>?_) (List.mem_range.2 (by rw [← h.size];exact hi2)) ?_ ?_
   ·rw [getD_set _ _ _ hi2] at hx
    split at hx
    ·simp at hx
    ·exact hx
   ·rw [Array.getD_eq_getD_getElem?,Array.getElem?_eq_getElem hi2] at hun ⊢
    simp at hun ⊢;exact hun
   ·rw [getD_set _ _ _ hi2,if_pos rfl];rfl
  omega
theorem wp_region_inv {id:Nat} {l:List Oper} {w:World} (S:World→Prop) (F:Nat→Value→World→Prop) (hm:P.follows .mixedOrders=true) (hn:neat .any l.toArray a0.tmps.size=true)
  (hst:∀ i v w w',F i v w→S w→Below w.heap.size w w'→F i v w') (hS:S w.drew) (hs:StepsOk P l.toArray Q .any S F a0 l 0)
  (fin:∀ (v:Nat→Value) (w:World),S w→(∀ (i:Nat) (o:Oper) (t:Nat),l.toArray[i]?=some o→o.dst=some t→F i (v i) w)→Q .normal (putAll l v 0 a0) w) :
  (Code.region id l.toArray true).wp P Q a0 w:=by
 refine wp_region_any hm (wpAny_inv (S:=S) (F:=F) hn hst (by simpa using hs) (by simpa using fin) _ _ a0 _ ?_ ⟨by simp,hS,rfl,rfl,fun _ _=>rfl,fun i o t _ hl _=>?_⟩)
 ·unfold left
  exact Nat.le_trans (List.length_filter_le _ _) (by simp)
 ·rw [Array.getD_eq_getD_getElem?,Array.getElem?_replicate] at hl
  split at hl <;> simp at hl
def Stb (p:Value→World→Prop):Prop:=∀ v w w',p v w→Below w.heap.size w w'→p v w'
inductive Wd where
 | is (x:Value)
 | cell (n:Nat) (xs:List Value)
 | pred (p:Value→World→Prop) (h:Stb p)
 | any
def Wd.ok:Wd→Value→World→Prop
 | .is x,v,_=>v=x
 | .cell n xs,v,w=>∃ g,v=.slice (some ⟨g,0,none⟩) n n∧xs.length=n∧∀ i x,xs[i]?=some x→w.cell? ⟨g,i,none⟩=some x
 | .pred p _,v,w=>p v w
 | .any,_,_=>True
def Wd.at (l:List Wd) (i:Nat):Value→World→Prop:=(l.getD i .any).ok
theorem Wd.stays (l:List Wd) (S:World→Prop):∀ i v w w',Wd.at l i v w→S w→Below w.heap.size w w'→Wd.at l i v w':=by
 intro i v w w' h _ hb
 unfold Wd.at at *
 cases hx:l.getD i .any with
 | is x=>rw [hx] at h;exact h
 | any=>trivial
 | pred p hp=>rw [hx] at h;exact hp v w w' h hb
 | cell n xs =>
  rw [hx] at h
  obtain ⟨g,h1,h2,h3⟩:=h
  exact ⟨g,h1,h2,fun i x hi=>by
   have h4:=h3 i x hi
   rw [← h4];exact hb.cell (World.block_lt_of_cell? w _ h4)⟩
theorem nw {l:List Oper} {t:Nat} (h:(l.all fun o=>o.dst != some t)=true):∀ (j:Nat) (oj:Oper),l.toArray[j]?=some oj→oj.dst≠some t:=by
 intro j oj hj
 have hj':l[j]?=some oj:=by simpa using hj
 have:=List.all_eq_true.1 h oj (List.mem_of_getElem? hj')
 simpa using this
theorem wanted_none {o:Oper} {y:Nat→Option Bool} (hg:o.guard=none):Region.wanted o y=true:=by simp [Region.wanted,hg]
theorem wanted_some {o:Oper} {l:List Oper} {a:Act} {g:Nat} {b:Bool} {og:Oper} {t:Nat} (hg:o.guard=some (g,b)) (ho:l.toArray[g]?=some og) (ht:og.dst=some t) (hv:a.eval (.tmp t)=.bool b):Region.wanted o (yielded l.toArray a.tmps)=true:=by
 have hy:yielded l.toArray a.tmps g=some b:=by
  unfold yielded
  simp only [ho,Option.bind_some,ht]
  simp only [Act.eval,Array.getD_eq_getD_getElem?] at hv
  cases h:a.tmps[t]? with
  | none=>rw [h] at hv;simp [undef] at hv
  | some x=>rw [h] at hv;simp at hv;rw [hv]
 simp [Region.wanted,hg,hy]
theorem unwanted {o:Oper} {l:List Oper} {a:Act} {g:Nat} {b:Bool} {og:Oper} {t:Nat} (hg:o.guard=some (g,b)) (ho:l.toArray[g]?=some og) (ht:og.dst=some t) (hv:a.eval (.tmp t)=.bool (!b)):Region.wanted o (yielded l.toArray a.tmps)=false:=by
 have hy:yielded l.toArray a.tmps g=some (!b):=by
  unfold yielded
  simp only [ho,Option.bind_some,ht]
  simp only [Act.eval,Array.getD_eq_getD_getElem?] at hv
  cases h:a.tmps[t]? with
  | none=>rw [h] at hv;simp [undef] at hv
  | some x=>rw [h] at hv;simp at hv;rw [hv]
 cases b <;> simp [Region.wanted,hg,hy]
theorem slot {a:Act} {t:Nat} {x:Value} (h:a.eval (.tmp t)=x):a.tmps[t]?.getD undef=x:=by rw [← h];simp [Act.eval]
def Does (P:Program) (ops:Array Oper) (Q:Exit→Act→World→Prop) (S:World→Prop) (F:Nat→Value→World→Prop) (i:Nat) (o:Oper) (a:Act) (w:World):Prop :=
 (Region.wanted o (yielded ops a.tmps)=true∧o.wp P a w (fun a' w'=>∃ v,a'=a.put o.dst v∧F i v w'∧S w'∧Below w.heap.size w w') Q) ∨
  (Region.wanted o (yielded ops a.tmps)=false∧F i undef w)
theorem does_pure {i:Nat} {o:Oper} {a:Act} {w:World} {x:Value} (hw:Region.wanted o (yielded ops a.tmps)=true) (hrun:(execOp a.eval o).run P w=.ok (.value x) w) (hS:S w) (hF:F i x w):Does P ops Q S F i o a w :=
 .inl ⟨hw,by unfold Oper.wp;rw [hrun];exact ⟨x,rfl,hF,hS,Below.refl _ _⟩⟩
theorem does_new {i:Nat} {o:Oper} {a:Act} {w:World} {x:Value} {ob:Obj} (hw:Region.wanted o (yielded ops a.tmps)=true) (hrun:(execOp a.eval o).run P w=.ok (.value x) (w.alloc ob)) (hS:S (w.alloc ob)) (hF:F i x (w.alloc ob)):Does P ops Q S F i o a w :=
 .inl ⟨hw,by unfold Oper.wp;rw [hrun];exact ⟨x,rfl,hF,hS,(Below.refl _ _).alloc (Nat.le_refl _) _⟩⟩
theorem does_call {i:Nat} {o:Oper} {a:Act} {w:World} {f:FuncId} {args:Array Value} (hw:Region.wanted o (yielded ops a.tmps)=true) (hrun:(execOp a.eval o).run P w=.ok (.enter f args) w)
  (hc:Calls P f args w fun e w'=>∃ v,e=.returned v∧F i v w'∧S w'∧Below w.heap.size w w'):Does P ops Q S F i o a w :=
 .inl ⟨hw,by
  unfold Oper.wp;rw [hrun]
  exact hc.mono fun e w' ⟨v,he,h1,h2,h3⟩=>by subst he;exact ⟨v,rfl,h1,h2,h3⟩⟩
end
end Go.Proofs.YtlgdcelgkiipaaaGreat.Rg
namespace Go.Proofs.YtlgdcelgkiipaaaGreat
open Go.RowKit
open Pl (Un)
theorem cellsUn:Tryz.prog.cellsOf 47=5:=by kernel_rfl
theorem slice_toU (A:Option Addr) (n c k:Nat) (hk:k≤c):∀ w',(Instr.sliceAt 29 (.slice A n c) none (some (.int .i64 (k:Int))) none).run Tryz.prog w'=.ok (.slice A k c) w':=by
 intro w'
 obtain ⟨i0,hi,_⟩:=info_parts infoUn
 have hu:Tryz.prog.underlying 29=some (.slice (Tryz.prog.elem 29)):=by kernel_rfl
 have he:Tryz.prog.elem 29=47:=by kernel_rfl
 rw [run_sliceAt_slice w' _ _ _ _ _ hu,run_slice_h w' 29 A n c hu .i64 (k:Int) (by omega) (by omega),he,run_sizeOf w' hi]
 simp only [Result.andThen,sliced,Int.toNat_natCast,Nat.zero_mul,Nat.sub_zero]
 congr 2
 split
 ·rfl
 ·cases A <;> rfl
theorem slice_fromU (A:Option Addr) (n c k:Nat) (hk:k≤n):∀ w',(Instr.sliceAt 29 (.slice A n c) (some (.int .i64 (k:Int))) none none).run Tryz.prog w'=.ok (.slice (if c=k then A else A.map (·.add (k * 5))) (n - k) (c - k)) w':=by
 intro w'
 obtain ⟨i0,hi,_⟩:=info_parts infoUn
 have hu:Tryz.prog.underlying 29=some (.slice (Tryz.prog.elem 29)):=by kernel_rfl
 have he:Tryz.prog.elem 29=47:=by kernel_rfl
 rw [run_sliceAt_slice w' _ _ _ _ _ hu,run_slice_l w' 29 A n c hu .i64 (k:Int) (by omega) (by omega),he,run_sizeOf w' hi]
 simp only [Result.andThen,sliced,Int.toNat_natCast,cellsUn]
theorem Rws.upto {α:Type} {enc:α→List Value} {k:Nat} (hk:∀ x,(enc x).length=k) {w:World} {B n c i:Nat} {A:Option Addr} {l:List α} (h:Rws enc w B A n c l) (hi:i≤n):Rws enc w B A i c (l.take i):=by
 have hl:=h.len
 have hle:=h.le
 refine ⟨by rw [List.length_take];omega,by omega,h.cap,h.nil_,fun h0=>?_⟩
 obtain ⟨g,o,e,hg,hc⟩:=h.2.2.2.2 (by omega)
 refine ⟨g,o,e,hg,fun j u hj=>hc j u ?_⟩
 rw [← cellsR_take hk,List.getElem?_take] at hj
 split at hj
 ·exact hj
 ·cases hj
theorem Rws.from_ {α:Type} {enc:α→List Value} {k:Nat} (hk:∀ x,(enc x).length=k) {w:World} {B n c i:Nat} {A:Option Addr} {l:List α} (h:Rws enc w B A n c l) (hi:i≤n):Rws enc w B (if c=i then A else A.map (·.add (i * k))) (n - i) (c - i) (l.drop i):=by
 have:=h.part hk hi (Nat.le_refl n)
 rwa [List.take_of_length_le (by rw [List.length_drop,h.len];omega)] at this
open Go.RowKit
open Pl (Un)
namespace Pl
def Fol (u v:Un):Prop:=v.k=u.k∧v.x=u.x∧v.y=u.y∧u.k≠0∧v.p=(if u.k=1 then wrap64 (u.p + 1) else u.p)
instance (u v:Un):Decidable (Fol u v):=by unfold Fol;infer_instance
structure Rn where
 k:Int
 p:Int
 x:Int
 y:Int
 cs:List Int
deriving DecidableEq,Inhabited
def one (u:Un):Rn:=⟨u.k,u.p,u.x,u.y,[u.c]⟩
def Rn.more (r:Rn) (t:List Int):Rn:=⟨r.k,r.p,r.x,r.y,r.cs ++ t⟩
def long (rs:List Rn) (c:Int):List Rn:=match rs.getLast? with
 | some r=>rs.dropLast ++ [r.more [c]]
 | none=>rs
end Pl
open Go.RowKit
open Pl (Un)
namespace Pl
def cleanL (l:List Un):List Un:=l.filter (fun u=>decide (u.k≠0))
def growsL (l:List Un):Int:=(l.map (fun u=>grows u.k)).sum
theorem clean_append (a b:List Un):cleanL (a ++ b)=cleanL a ++ cleanL b:=by simp [cleanL]
theorem clean_clean (l:List Un):cleanL (cleanL l)=cleanL l:=by simp [cleanL,List.filter_filter]
theorem clean_snoc (l:List Un) (u:Un):cleanL (l ++ [u])=if u.k=0 then cleanL l else cleanL l ++ [u]:=by
 rw [clean_append]
 by_cases h:u.k=0 <;> simp [cleanL,h]
end Pl
open Go.RowKit
open Pl (Un)
instance:Inhabited Un:=⟨⟨0,0,0,0,0⟩⟩
open Go.RowKit
open Pl (Un)
set_option maxHeartbeats 400000 in
theorem cloneU_big (A:Option Addr) (n c:Nat) (l:List Un) (w:World) (h1:Uns w w.heap.size A n c l) (hr:n * 40≤140737488355328) :
  Calls Tryz.prog 158 #[.slice A n c] w (RetU w l):=by
 cases A with
 | none =>
  have hc:c=0:=h1.nil_ rfl
  have hn:n=0:=by have:=h1.le;omega
  subst hc hn
  obtain rfl:l=[]:=List.eq_nil_of_length_eq_zero h1.len
  have q:=eqlU_nil none 0 0
  go_enter Tryz.func158,Tryz.ntmps158
  go_wp2_with fail
  go_ret
  exact ⟨none,0,rfl,OwnR.nil_ _ _ _ _ _,Below.refl _ _⟩
 | some ad =>
  have q:=eqlU_nil (some ad) n c
  have hb1:Below w.heap.size w (w.alloc (.cells #[] 47)):=(Below.refl _ _).alloc (Nat.le_refl _) _
  have HB:=Lib.hid (h1.below hb1 (Nat.le_refl _))
  have HV:=Lib.hid (show OwnU (w.alloc (.cells #[] 47)) w.heap.size (.slice (some ⟨w.heap.size,0,none⟩) 0 0) [] from units_lit w [] (by simp))
  have HL:=Lib.hid h1.len
  have HB1:=Lib.hid hb1
  clear h1 hb1
  go_enter Tryz.func158,Tryz.ntmps158
  go_wp2_with (at_builtin;refine wpList_append_rws encU_len encU_one Tryz.underlying29 infoUn (by decide) (by decide) (w.alloc (.cells #[] 47)) rfl (.tmp 5) (.tmp 6) rfl w.heap.size _ _ _ [] (by rfl) HV.out w.heap.size _ _ _ l (by rfl) HB.out (by unfold maxLen;omega) (by omega) (by simp) ?_)
  intro A2 c2 w2 hV2 hg2 hx2
  have hb2:=OwnR.grownBelow HV.out hg2 HB1.out (by simp)
  clear hx2 hg2
  have hV2:OwnU w2 w.heap.size (.slice A2 n c2) l:=by simpa using hV2
  have H2:=Lib.hid (And.intro hV2 hb2)
  clear hV2 hb2
  go_wp2_with fail
  go_ret
  refine ⟨A2,c2,?_,?_,H2.out.2⟩
  ·rw [HL.out];simp
  ·rw [HL.out];exact H2.out.1
open Go.RowKit
open Pl (Un)
set_option maxHeartbeats 400000 in
theorem long_big (A:Option Addr) (m c:Nat) (l:List Un) (N:Int) (w:World) (h1:Uns w w.heap.size A m c l) (hm:m≤140737488355328) (hN:N≤1152921504606846976) :
  Calls Tryz.prog 74 #[.slice A m c,.int .i64 N] w fun e w'=>e=.returned (.tuple #[.int .i64 (Pl.longL l N).1,.int .i64 (Pl.longL l N).2])∧Below w.heap.size w w':=by
 have HL:=Lib.hid h1.len
 have H1:=Lib.hid h1
 have HC:=Lib.hid (contains_any A m c l w h1)
 clear h1
 obtain ⟨ra,hra⟩ : ∃ r,r=(Pl.longL l N).1:=⟨_,rfl⟩
 obtain ⟨rb,hrb⟩ : ∃ r,r=(Pl.longL l N).2:=⟨_,rfl⟩
 rw [← hra,← hrb]
 have HRA:=Lib.hid hra
 have HRB:=Lib.hid hrb
 clear hra hrb
 by_cases h0:N<0
 ·have HE:=Lib.hid (show Pl.longL l N=(0,1) by unfold Pl.longL;rw [if_neg];omega)
  rw [HE.out] at HRA HRB
  go_enter Tryz.func74,Tryz.ntmps74
  go_wp2_with fail
  go_returns
  exact ⟨by rw [HRA.out,HRB.out];rfl,Below.refl _ _⟩
 ·by_cases hok:∀ u ∈ l,Pl.Okay u
  ·rw [decide_eq_false (fun h=>h hok)] at HC
   have HE:=Lib.hid (show Pl.longL l N=Pl.goL l N by unfold Pl.longL;rw [if_pos ⟨by omega,hok⟩])
   rw [HE.out] at HRA HRB
   clear hok
   have z0:decide (N<0)=false:=decide_eq_false h0
   go_enter Tryz.func74,Tryz.ntmps74
   go_wp2_with fail
   refine HC.out.mono ?_
   rintro e w1 ⟨rfl,hb⟩
   have HB1:=Lib.hid hb
   clear hb
   go_wp2_with fail
   go_loopw [1,18] (fun s i wr=>LoR w l N s i wr) (fun _ i _=>m - (intOf i).toNat)
   case atStart=>exact ⟨0,N,rfl,rfl,Nat.zero_le _,rfl,by omega,by omega,HB1.out⟩
   case round =>
    obtain ⟨j,n,rfl,rfl,hj,hg,hn1,hn2,hb⟩:=hrel
    have HB:=Lib.hid hb
    have HG:=Lib.hid hg
    rw [HL.out] at hj
    clear hb hg
    by_cases hlt:j<m
    ·obtain ⟨g1,o1,rfl,hg1,hc1⟩:=Uns.at_ (Rws.below H1.out HB.out (Nat.le_refl _)) hlt
     obtain ⟨a0,a1,a2,a3,a4⟩:=hc1 j hlt
     have hjl:j<l.length:=by rw [HL.out];exact hlt
     obtain ⟨u,hu⟩ : ∃ u,u=l.getD j default:=⟨_,rfl⟩
     rw [← hu] at a0 a1 a2 a3 a4
     have HD:=Lib.hid (show l.drop j=u :: l.drop (j + 1) from by rw [hu,List.getD_eq_getElem?_getD,List.getElem?_eq_getElem hjl];exact List.drop_eq_getElem_cons hjl)
     have HF:=fun w=>Lib.hid (fits_any u n w)
     have HG2:=fun w=>Lib.hid (grows_any u w)
     have hgl:=Pl.grows_le u.k
     obtain ⟨n2,hn2e⟩ : ∃ n2,n2=n + Pl.grows u.k:=⟨_,rfl⟩
     have hw:wrap64 (n + Pl.grows u.k)=n2:=by unfold wrap64;omega
     have HST:=Lib.hid (show Pl.Fit u n→Pl.goL l N=Pl.goL (l.drop (j + 1)) n2 from fun h=>by
      rw [HG.out,HD.out,hn2e];exact if_pos h)
     have HNF:=Lib.hid (show ¬ Pl.Fit u n→Pl.goL l N=(0,30) from fun h=>by
      rw [HG.out,HD.out];exact if_neg h)
     have hb1:N - ((j + 1:Nat):Int)≤n2:=by omega
     have hb2:n2≤N + ((j + 1:Nat):Int):=by omega
     obtain ⟨k,p,ch,x,y⟩:=u
     simp only at a0 a1 a2 a3 a4 hw
     obtain ⟨gr,hgr⟩ : ∃ gr,gr=Pl.grows k:=⟨_,rfl⟩
     simp only at HG2
     rw [← hgr] at hw HG2
     have z0:(0:Int)≤(j:Int):=by omega
     have z1:(j:Int)<(m:Int):=by omega
     have HU:=Lib.hid (uat_new wr k p ch x y)
     have HBU:=Lib.hid (below_alloc HB.out (.cells #[.int .i64 k,.int .i64 p,.int .i32 ch,.int .u32 x,.int .u64 y] 47))
     clear hc1 hu hgl hn2e hgr HD
     unfold uval at HF HG2
     simp only at HF HG2
     by_cases hfit:Pl.Fit ⟨k,p,ch,x,y⟩ n
     ·rw [decide_eq_true hfit] at HF
      have HS2:=Lib.hid (HST.out hfit)
      clear hfit
      go_wp2_with fail
      refine (HF _).out.mono ?_
      rintro e w2 ⟨rfl,hb2'⟩
      have HB2:=Lib.hid (below_then' HBU.out hb2' HBU.out.size)
      obtain ⟨c0,c1,c2,c3,c4⟩:=(HU.out.then_ hb2').cells
      clear hb2' a0 a1 a2 a3 a4
      go_wp2_with fail
      refine (HG2 _).out.mono ?_
      rintro e w3 ⟨rfl,hb3⟩
      have HB3:=Lib.hid (below_then' HB2.out hb3 HB2.out.size)
      clear hb3 c0 c1 c2 c3 c4
      go_wp2_with fail
      go_roundw
      case rel=>exact ⟨j + 1,n2,by go_num,by rw [hw],by rw [HL.out];omega,HS2.out,hb1,hb2,HB3.out⟩
      case measure=>simp [intOf];omega
     ·rw [decide_eq_false hfit] at HF
      have HS2:=Lib.hid (HNF.out hfit)
      clear hfit
      go_wp2_with fail
      refine (HF _).out.mono ?_
      rintro e w2 ⟨rfl,hb2'⟩
      have HB2:=Lib.hid (below_then' HBU.out hb2' HBU.out.size)
      clear hb2' a0 a1 a2 a3 a4
      go_wp2_with fail
      go_returns
      exact ⟨by rw [HRA.out,HRB.out,HS2.out];rfl,HB2.out⟩
    ·have HE2:=Lib.hid (show Pl.goL l N=(n,0) from by rw [HG.out,List.drop_of_length_le (by rw [HL.out];omega)];rfl)
     go_wp2_with fail
     go_returns
     exact ⟨by rw [HRA.out,HRB.out,HE2.out];rfl,HB.out⟩
  ·rw [decide_eq_true hok] at HC
   have HE:=Lib.hid (show Pl.longL l N=(0,1) by unfold Pl.longL;rw [if_neg];exact fun h=>hok h.2)
   rw [HE.out] at HRA HRB
   clear hok
   have z0:decide (N<0)=false:=decide_eq_false h0
   go_enter Tryz.func74,Tryz.ntmps74
   go_wp2_with fail
   refine HC.out.mono ?_
   rintro e w1 ⟨rfl,hb⟩
   have HB1:=Lib.hid hb
   clear hb
   go_wp2_with fail
   go_returns
   exact ⟨by rw [HRA.out,HRB.out];rfl,HB1.out⟩
open Go.RowKit Go.ChangeShapes Go.WideShapes
open Pl (Un)
structure Pl.Op where
 x:Int
 y:Int
 l:List Un
 b:Bool
deriving DecidableEq
structure OpV where
 x:Int
 y:Int
 A:Option Addr
 n:Nat
 c:Nat
 l:List Un
 b:Bool
instance:Inhabited OpV:=⟨⟨0,0,none,0,0,[],false⟩⟩
instance:Inhabited Pl.Op:=⟨⟨0,0,[],false⟩⟩
def OpV.op (o:OpV):Pl.Op:=⟨o.x,o.y,o.l,o.b⟩
def encO (o:OpV):List Value:=[.int .u32 o.x,.int .u64 o.y,.slice o.A o.n o.c,.bool o.b]
theorem encO_len (o:OpV):(encO o).length=4:=rfl
theorem encO_one (o:OpV):∀ v ∈ encO o,v.oneCell'=true:=by
 intro v hv
 simp only [encO,List.mem_cons,List.not_mem_nil,or_false] at hv
 rcases hv with rfl | rfl | rfl | rfl <;> rfl
def In (F:Nat→Prop) (A:Option Addr) (n:Nat):Prop:=0<n→∀ ad,A=some ad→F ad.block
theorem In.more {F G:Nat→Prop} {A:Option Addr} {n:Nat} (h:In F A n) (hg:∀ b,F b→G b):In G A n:=fun h0 ad e=>hg _ (h h0 ad e)
theorem In.apart {F T:Nat→Prop} {A:Option Addr} {n:Nat} (h:In F A n) (hd:∀ b,F b→¬ T b):Apart T A n:=fun h0 ad e=>hd _ (h h0 ad e)
def UnsF (w:World) (F:Nat→Prop) (A:Option Addr) (n c:Nat) (l:List Un):Prop:=Uns w w.heap.size A n c l∧In F A n
def OpsF (w:World) (F:Nat→Prop) (A:Option Addr) (n c:Nat) (L:List OpV):Prop:=Rws encO w w.heap.size A n c L∧In F A n∧∀ o ∈ L,UnsF w F o.A o.n o.c o.l
section
variable {w w':World} {F G T:Nat→Prop} {A:Option Addr} {n c:Nat} {l:List Un} {L:List OpV}
theorem UnsF.tn (h:UnsF w F A n c l) (ht:Tn T w w') (hd:∀ b,F b→¬ T b):UnsF w' F A n c l:=⟨Rws.tn h.1 ht (h.2.apart hd),h.2⟩
theorem UnsF.then_ (h:UnsF w F A n c l) (hb:Below w.heap.size w w'):UnsF w' F A n c l:=⟨Rws.then_ h.1 hb,h.2⟩
theorem UnsF.more (h:UnsF w F A n c l) (hg:∀ b,F b→G b):UnsF w G A n c l:=⟨h.1,h.2.more hg⟩
theorem OpsF.tn (h:OpsF w F A n c L) (ht:Tn T w w') (hd:∀ b,F b→¬ T b):OpsF w' F A n c L:=⟨Rws.tn h.1 ht (h.2.1.apart hd),h.2.1,fun o ho=>(h.2.2 o ho).tn ht hd⟩
theorem OpsF.then_ (h:OpsF w F A n c L) (hb:Below w.heap.size w w'):OpsF w' F A n c L:=⟨Rws.then_ h.1 hb,h.2.1,fun o ho=>(h.2.2 o ho).then_ hb⟩
theorem OpsF.more (h:OpsF w F A n c L) (hg:∀ b,F b→G b):OpsF w G A n c L:=⟨h.1,h.2.1.more hg,fun o ho=>(h.2.2 o ho).more hg⟩
theorem OpsF.none_ (w:World) (F:Nat→Prop):OpsF w F none 0 0 []:=⟨Rws.none_ _ _ _,(fun h=>absurd h (by decide)),fun o ho=>by cases ho⟩
theorem OpsF.at_ (h:OpsF w F A n c L) {i:Nat} (hi:i<n) :
  ∃ g o,A=some ⟨g,o,none⟩∧g<w.heap.size∧F g∧∀ i,i<n→w.cell? ⟨g,o + i * 4,none⟩=some (.int .u32 (L.getD i default).x)∧w.cell? ⟨g,o + i * 4 + 1,none⟩=some (.int .u64 (L.getD i default).y) ∧
   w.cell? ⟨g,o + i * 4 + 2,none⟩=some (.slice (L.getD i default).A (L.getD i default).n (L.getD i default).c)∧w.cell? ⟨g,o + i * 4 + 3,none⟩=some (.bool (L.getD i default).b):=by
 obtain ⟨g,o,e,hg,hc⟩:=Rws.at_ encO_len h.1 hi
 exact ⟨g,o,e,hg,h.2.1 (by omega) _ e,fun i hi=>⟨hc i hi 0 _ (by decide) rfl,hc i hi 1 _ (by decide) rfl,hc i hi 2 _ (by decide) rfl,hc i hi 3 _ (by decide) rfl⟩⟩
theorem OpsF.getD_ (h:OpsF w F A n c L) {i:Nat} (hi:i<n):UnsF w F (L.getD i default).A (L.getD i default).n (L.getD i default).c (L.getD i default).l:=by
 refine h.2.2 _ ?_
 rw [List.getD_eq_getElem?_getD,List.getElem?_eq_getElem (by rw [h.1.1];exact hi)]
 exact List.getElem_mem _
theorem Rws.in_ {α:Type} {enc:α→List Value} {B:Nat} {l:List α} (h:Rws enc w B A n c l):In (fun b=>b<B) A n:=fun h0 ad e=>by
 obtain ⟨g,o,e2,hg,_⟩:=h.2.2.2.2 h0
 rw [e] at e2;cases e2;exact hg
end
end Go.Proofs.YtlgdcelgkiipaaaGreat
