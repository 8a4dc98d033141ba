/-
  What an act does to a document, beside one past: as the law DocOne reckons it. Conditions: those that each states.
  doc.New; answers that are kept while the document goes on. Conditions: those that each states.
  What the document's examples (awake) come to, in plain words. No conditions.
-/
import Derived.Test.YtlgdcelgkiipaaaGreatOc44
import Derived.Test.YtlgdcelgkiipaaaGreatOc41
import Derived.Test.YtlgdcelgkiipaaaGreatOc13
set_option maxRecDepth 100000
set_option linter.unusedVariables false
namespace Go.Proofs.YtlgdcelgkiipaaaGreat
open Go.RowKit
open Pl (Un)
namespace Pl.Dc
theorem tells_len (d:Dc) (rev:Nat) (b:Bool):(d.tells rev b).ops.length≤d.now:=by
 unfold tells
 split
 ·exact Nat.zero_le _
 ·split
  ·exact Nat.zero_le _
  ·show (d.later rev).length≤_
   unfold later now
   rw [List.length_drop]
   omega
theorem call_len {d:Dc} {t:Int} {f:Dc→Dc × An} (h:(d.call t f).2.e=0) (hf:(f (d.touched t)).2.ops.length≤(f (d.touched t)).1.now):(d.call t f).2.ops.length≤(d.call t f).1.now:=by
 by_cases ht:1099511627776<t
 ·rw [call_late ht] at h;exact absurd h (show ¬ (1:Int)=0 by decide)
 ·rw [call_on ht] at h ⊢
  by_cases he:(f (d.touched t)).2.e=0
  ·simp only [he,if_true];exact hf
  ·rw [if_neg he] at h
   exact absurd h he
theorem open_len {d:Dc} {c:Int} {rev:Nat} {t:Int} (h:(d.open_ c rev t).2.e=0):(d.open_ c rev t).2.ops.length≤(d.open_ c rev t).1.now:=by
 refine call_len h ?_
 split
 ·exact tells_len _ _ _
 ·split
  ·exact Nat.zero_le _
  ·exact tells_len _ _ _
theorem fetch_len {d:Dc} {c:Int} {rev:Nat} {most t:Int} (h:(d.fetch c rev most t).2.e=0):(d.fetch c rev most t).2.ops.length≤(d.fetch c rev most t).1.now:=by
 refine call_len h ?_
 obtain ⟨ht,hl,he⟩:=at_done h
 simp only [hl,if_true,he]
 split
 ·exact Nat.zero_le _
 ·split
  ·exact tells_len _ _ _
  ·have:=tells_len (d.touched t) rev false
   show (if most=0 then ((d.touched t).tells rev false).ops else ((d.touched t).tells rev false).ops.take most.toNat).length≤(d.touched t).now
   split
   ·exact this
   ·rw [List.length_take];omega
theorem fetch_top {d:Dc} {c:Int} {rev:Nat} {most t:Int} (h:(d.fetch c rev most t).2.e=0) (hn:(d.fetch c rev most t).2.ops≠[]):rev + (d.fetch c rev most t).2.ops.length≤(d.fetch c rev most t).1.now:=by
 obtain ⟨ht,hl,he⟩:=at_done h
 unfold fetch at hn ⊢
 rw [at_on' ht hl _ he] at hn ⊢
 by_cases hm:most<0
 ·simp only [hm,if_true] at he;exact absurd he (show ¬ (1:Int)=0 by decide)
 ·simp only [hm,if_false] at he hn ⊢
  by_cases h0:((d.touched t).tells rev false).e=0
  ·simp only [h0,ne_eq,not_true_eq_false,if_false] at hn ⊢
   have hne:((d.touched t).tells rev false).ops≠[]:=fun e=>by
    apply hn
    show (if most=0 then ((d.touched t).tells rev false).ops else ((d.touched t).tells rev false).ops.take most.toNat)=[]
    rw [e];split
    ·rfl
    ·exact List.take_nil
   obtain ⟨h1,h2,h3⟩:=(keeps_tells (d.touched t) h0).2 hne
   have hlen:=len_later h2 h1
   show rev + (if most=0 then ((d.touched t).tells rev false).ops else ((d.touched t).tells rev false).ops.take most.toNat).length≤(d.touched t).now
   rw [h3]
   split
   ·omega
   ·rw [List.length_take];omega
  ·simp only [ne_eq,h0,not_false_eq_true,if_true] at he
theorem tells_mem (d:Dc) (rev:Nat) (b:Bool):∀ o ∈ (d.tells rev b).ops,o ∈ d.P:=by
 unfold tells
 split
 ·exact fun o ho=>by cases ho
 ·split
  ·exact fun o ho=>by cases ho
  ·exact fun o ho=>List.mem_of_mem_drop ho
theorem ops_call {d:Dc} {t:Int} {f:Dc→Dc × An} {Q:Op→Prop} (h:∀ o ∈ (f (d.touched t)).2.ops,Q o):∀ o ∈ (d.call t f).2.ops,Q o:=by
 by_cases ht:1099511627776<t
 ·rw [call_late ht];exact fun o ho=>by cases ho
 ·rw [call_on ht]
  dsimp only
  split
  ·exact h
  ·exact h
theorem ops_at {d:Dc} {c t:Int} {f:Dc→Dc × An} {Q:Op→Prop} (h:∀ o ∈ (f (d.touched t)).2.ops,Q o):∀ o ∈ (d.at_ c t f).2.ops,Q o:=by
 refine ops_call ?_
 split
 ·split
  ·exact h
  ·exact h
 ·exact fun o ho=>by cases ho
end Pl.Dc
open Pl.Dc
theorem does_ops {d:Pl.Dc} (hd:Ok d) (a:ActD) (t:Int):∀ o ∈ (a.does d t).2.ops,o.l.length≤256:=by
 have hT:=ok_touched hd t
 have hrow:∀ o ∈ (d.touched t).P,o.l.length≤256:=fun o ho=>(hT.p.row o ho).1
 unfold ActD.does
 split
 ·refine ops_call ?_
  split
  ·exact fun o ho=>hrow o (tells_mem _ _ _ o ho)
  ·split
   ·exact fun o ho=>by cases ho
   ·exact fun o ho=>hrow o (tells_mem _ _ _ o ho)
 split
 ·refine ops_call ?_
  split <;> exact fun o ho=>by cases ho
 split
 ·refine ops_at ?_
  split
  ·exact fun o ho=>by cases ho
  ·rename_i he
   intro o ho
   have hz:=Decidable.not_not.1 he
   rcases List.mem_append.1 ho with ho | ho
   ·exact hrow o (List.mem_of_mem_drop ho)
   ·rw [List.mem_singleton.1 ho]
    have hr:=edit_row hz
    exact Nat.le_trans (ripe_all hT.p (editE_zero hz).2.2.2.2.2).2.2.2.2 hr.1
 split
 ·refine ops_at ?_
  split
  ·exact fun o ho=>by cases ho
  ·rename_i he
   intro o ho
   have hz:=Decidable.not_not.1 he
   rw [List.mem_singleton.1 ho]
   have hr:=undo_row hT hz
   exact Nat.le_trans (ripe_all hT.p (undoE_zero hz).2.2.2.2).2.2.2.2 hr.1
 split
 ·exact ops_call fun o ho=>by cases ho
 split
 ·refine ops_at ?_
  split
  ·exact fun o ho=>by cases ho
  ·split
   ·exact fun o ho=>hrow o (tells_mem _ _ _ o ho)
   ·intro o ho
    refine hrow o (tells_mem (d.touched t) a.r false o ?_)
    have ho2:o ∈ (if a.p=0 then ((d.touched t).tells a.r false).ops else ((d.touched t).tells a.r false).ops.take a.p.toNat):=ho
    split at ho2
    ·exact ho2
    ·exact List.mem_of_mem_take ho2
 split
 ·refine ops_at ?_
  split
  ·exact fun o ho=>by cases ho
  ·split <;> exact fun o ho=>by cases ho
 split
 ·exact ops_at fun o ho=>by cases ho
 ·exact fun o ho=>by cases ho
theorem call_t (d:Pl.Dc) (t:Int) {f:Pl.Dc→Pl.Dc × Pl.An} (h:∀ d,(f d).1.t=d.t):(d.call t f).1.t≤d.t + 1:=by
 by_cases ht:1099511627776<t
 ·rw [call_late ht];exact Nat.le_succ _
 ·rw [call_on ht]
  show (f (d.touched t)).1.t≤d.t + 1
  rw [h]
  exact Nat.le_refl _
theorem at_t (d:Pl.Dc) (c t:Int) {f:Pl.Dc→Pl.Dc × Pl.An} (h:∀ d,(f d).1.t=d.t):(d.at_ c t f).1.t≤d.t + 1:=call_t d t fun d=>by
 split
 ·split
  ·exact h d
  ·exact h d
 ·rfl
theorem does_t (d:Pl.Dc) (a:ActD) (t:Int):(a.does d t).1.t≤d.t + 1:=by
 unfold ActD.does
 split
 ·exact call_t d t fun d=>by (repeat' split) <;> rfl
 split
 ·exact call_t d t fun d=>by (repeat' split) <;> rfl
 split
 ·exact at_t d _ t fun d=>by (repeat' split) <;> rfl
 split
 ·exact at_t d _ t fun d=>by (repeat' split) <;> rfl
 split
 ·exact call_t d t fun d=>rfl
 split
 ·exact at_t d _ t fun d=>by (repeat' split) <;> rfl
 split
 ·exact at_t d _ t fun d=>by (repeat' split) <;> rfl
 split
 ·exact at_t d _ t fun d=>rfl
 ·exact Nat.le_succ _
def ActD.first (a:ActD) (r:Pl.Dc × Pl.An):Nat:=if a.k=5 then a.r else if a.k=3 then r.2.rev - 1 else r.2.rev - r.2.ops.length
structure Done (a:ActD) (d:Pl.Dc) (r:Pl.Dc × Pl.An):Prop where
 rev:0≤a.k∧a.k<8→r.2.rev=r.1.now
 len:r.2.ops.length≤r.2.rev
 one:(Keeps d r.1 r.2 (a.first r)∧a.k≠3)∨(a.k=2∨a.k=3)∧Makes d r.1 r.2 (a.first r)
 le:r.2.rev≤r.1.now
 top:r.2.ops≠[]→a.first r + r.2.ops.length≤r.2.rev
theorem does_bad {d:Pl.Dc} (hd:Ok d) (a:ActD) (t:Int) (h:(a.does d t).2.e≠0):(a.does d t).2=Pl.fails (a.does d t).2.e∧Keeps d (a.does d t).1 (a.does d t).2 0:=by
 have key:∀ {r:Pl.Dc × Pl.An} {p:Prop} {f:Nat},One d r p f→r.2.e≠0→r.2=Pl.fails r.2.e∧Keeps d r.1 r.2 0:=fun ho hn=>by
  rcases ho with h | h | h
  ·exact h.2
  ·exact absurd h.1 hn
  ·exact absurd h.1 hn
 unfold ActD.does at h ⊢
 split at h
 ·rename_i h0;rw [if_pos h0];exact key (one_open d _ _ _) h
 ·rename_i h0
  rw [if_neg h0]
  split at h
  ·rename_i h1;rw [if_pos h1];exact key (one_leave d _ _ 0) h
  ·rename_i h1
   rw [if_neg h1]
   split at h
   ·rename_i h2;rw [if_pos h2];exact key (one_edit hd _ _ _ _ _) h
   ·rename_i h2
    rw [if_neg h2]
    split at h
    ·rename_i h3;rw [if_pos h3];exact key (one_undo hd _ _ _ _) h
    ·rename_i h3
     rw [if_neg h3]
     split at h
     ·rename_i h4;rw [if_pos h4];exact key (one_snap d _ _ 0) h
     ·rename_i h4
      rw [if_neg h4]
      split at h
      ·rename_i h5;rw [if_pos h5];exact key (one_fetch hd _ _ _ _) h
      ·rename_i h5
       rw [if_neg h5]
       split at h
       ·rename_i h6;rw [if_pos h6];exact key (one_move hd _ _ _ _ 0) h
       ·rename_i h6
        rw [if_neg h6]
        split at h
        ·rename_i h7;rw [if_pos h7];exact key (one_who hd _ _ 0) h
        ·exact absurd rfl h
theorem keeps_of {d:Pl.Dc} {r:Pl.Dc × Pl.An} {f:Nat} (h:One d r False f) (he:r.2.e=0):Keeps d r.1 r.2 f:=by
 rcases h with h | h | h
 ·exact absurd he h.1
 ·exact h.2
 ·exact h.2.1.elim
theorem does_ok {d:Pl.Dc} (hd:Ok d) (a:ActD) (t:Int) (h:(a.does d t).2.e=0):Done a d (a.does d t):=by
 unfold ActD.does at h ⊢
 split at h
 ·rename_i h0
  rw [if_pos h0]
  have hr:=call_rev h
  have hn:d.open_ a.x a.r t=d.open_ a.x a.r t:=rfl
  have hr2:(d.open_ a.x a.r t).2.rev=(d.open_ a.x a.r t).1.now:=hr
  have hlen:=open_len h
  refine ⟨fun _=>hr2,by rw [hr2];exact hlen,.inl ⟨?_,by omega⟩,Nat.le_of_eq hr2,fun _=>by unfold ActD.first;rw [if_neg (by omega),if_neg (by omega),hr2];omega⟩
  have hk:=keeps_of (one_open d a.x a.r t) h
  have:a.first (d.open_ a.x a.r t)=(d.open_ a.x a.r t).1.now - (d.open_ a.x a.r t).2.ops.length:=by
   unfold ActD.first;rw [if_neg (by omega),if_neg (by omega),hr2]
  rw [this];exact hk
 ·rename_i h0
  rw [if_neg h0]
  split at h
  ·rename_i h1
   rw [if_pos h1]
   have hr2:(d.leave_ a.x t).2.rev=(d.leave_ a.x t).1.now:=call_rev h
   have hno:(d.leave_ a.x t).2.ops=[]:=List.eq_nil_iff_forall_not_mem.2 fun o ho=>(ops_call (Q:=fun _=>False) (by split <;> exact fun o ho=>by cases ho) o ho)
   refine ⟨fun _=>hr2,?_,.inl ⟨keeps_of (one_leave d _ _ _) h,by omega⟩,Nat.le_of_eq hr2,fun hn=>absurd hno hn⟩
   refine Nat.le_trans (call_len h ?_) (Nat.le_of_eq hr2.symm)
   split <;> exact Nat.zero_le _
  ·rename_i h1
   rw [if_neg h1]
   split at h
   ·rename_i h2
    rw [if_pos h2]
    have hr2:(d.edit a.x a.y a.r a.row t).2.rev=(d.edit a.x a.y a.r a.row t).1.now:=call_rev h
    obtain ⟨hm,hb⟩:=edit_makes hd h
    have hf:a.first (d.edit a.x a.y a.r a.row t)=a.r:=by
     unfold ActD.first;rw [if_neg (by omega),if_neg (by omega),hr2];exact hb.symm
    have hlen:(d.edit a.x a.y a.r a.row t).2.ops.length≤(d.edit a.x a.y a.r a.row t).1.now:=by
     refine Nat.le_of_not_lt fun hlt=>?_
     have h1:=hm.now
     obtain ⟨ht,hl,he⟩:=at_done h
     have he0:(d.touched t).editE a.x a.y a.r a.row=0:=by
      by_cases h9:(d.touched t).editE a.x a.y a.r a.row=0
      ·exact h9
      ·simp only [ne_eq,h9,not_false_eq_true,if_true] at he
       exact absurd he h9
     obtain ⟨_,g1,g2,_⟩:=editE_zero he0
     have hln:(d.edit a.x a.y a.r a.row t).2.ops.length=(d.touched t).now - a.r + 1:=by
      unfold edit
      rw [at_on' ht hl _ he]
      simp only [he0,ne_eq,not_true_eq_false,if_false]
      rw [List.length_append,List.length_singleton,len_later g1 g2]
     rw [hln,(core_touched d t).now] at hlt
     omega
    refine ⟨fun _=>hr2,by rw [hr2];exact hlen,.inr ⟨.inl h2,by rw [hf];exact hm⟩,Nat.le_of_eq hr2,fun _=>by rw [hf,hr2];omega⟩
   ·rename_i h2
    rw [if_neg h2]
    split at h
    ·rename_i h3
     rw [if_pos h3]
     have hr2:(d.undo a.x a.y a.r t).2.rev=(d.undo a.x a.y a.r t).1.now:=call_rev h
     have hm:=undo_makes hd h
     have hf:a.first (d.undo a.x a.y a.r t)=d.now:=by
      unfold ActD.first;rw [if_neg (by omega),if_pos h3,hr2,hm.now];omega
     have hlen1:(d.undo a.x a.y a.r t).2.ops.length=1:=by
      obtain ⟨ht,hl,he⟩:=at_done h
      have he0:(d.touched t).undoE a.x a.y a.r=0:=by
       by_cases h9:(d.touched t).undoE a.x a.y a.r=0
       ·exact h9
       ·simp only [ne_eq,h9,not_false_eq_true,if_true] at he
        exact absurd he h9
      unfold undo
      rw [at_on' ht hl _ he]
      simp only [he0,ne_eq,not_true_eq_false,if_false]
      rfl
     refine ⟨fun _=>hr2,by rw [hr2,hm.now,hlen1];omega,.inr ⟨.inr h3,by rw [hf];exact hm⟩,Nat.le_of_eq hr2,fun _=>by rw [hf,hr2,hm.now,hlen1];omega⟩
    ·rename_i h3
     rw [if_neg h3]
     split at h
     ·rename_i h4
      rw [if_pos h4]
      have hr2:(d.snap a.p t).2.rev=(d.snap a.p t).1.now:=call_rev h
      have hno:(d.snap a.p t).2.ops=[]:=List.eq_nil_iff_forall_not_mem.2 fun o ho=>(ops_call (Q:=fun _=>False) (fun o ho=>by cases ho) o ho)
      refine ⟨fun _=>hr2,?_,.inl ⟨keeps_of (one_snap d _ _ _) h,by omega⟩,Nat.le_of_eq hr2,fun hn=>absurd hno hn⟩
      exact Nat.le_trans (call_len h (Nat.zero_le _)) (Nat.le_of_eq hr2.symm)
     ·rename_i h4
      rw [if_neg h4]
      split at h
      ·rename_i h5
       rw [if_pos h5]
       have hr2:(d.fetch a.x a.r a.p t).2.rev=(d.fetch a.x a.r a.p t).1.now:=call_rev h
       have htop:=fun hn=>fetch_top h hn
       refine ⟨fun _=>hr2,by rw [hr2];exact fetch_len h,.inl ⟨?_,by omega⟩,Nat.le_of_eq hr2,fun hn=>by unfold ActD.first;rw [if_pos h5,hr2];exact htop hn⟩
       have hk:=keeps_of (one_fetch hd a.x a.r a.p t) h
       have:a.first (d.fetch a.x a.r a.p t)=a.r:=by unfold ActD.first;rw [if_pos h5]
       rw [this];exact hk
      ·rename_i h5
       rw [if_neg h5]
       split at h
       ·rename_i h6
        rw [if_pos h6]
        have hr2:(d.move a.x a.r a.p t).2.rev=(d.move a.x a.r a.p t).1.now:=call_rev h
        have hno:(d.move a.x a.r a.p t).2.ops=[]:=List.eq_nil_iff_forall_not_mem.2 fun o ho=>(ops_at (Q:=fun _=>False) (by (repeat' split) <;> exact fun o ho=>by cases ho) o ho)
        refine ⟨fun _=>hr2,?_,.inl ⟨keeps_of (one_move hd _ _ _ _ _) h,by omega⟩,Nat.le_of_eq hr2,fun hn=>absurd hno hn⟩
        refine Nat.le_trans (call_len h ?_) (Nat.le_of_eq hr2.symm)
        obtain ⟨ht,hl,he⟩:=at_done h
        simp only [hl,if_true,he]
        split
        ·exact Nat.zero_le _
        ·split <;> exact Nat.zero_le _
       ·rename_i h6
        rw [if_neg h6]
        split at h
        ·rename_i h7
         rw [if_pos h7]
         have hr2:(d.who a.x t).2.rev=(d.who a.x t).1.now:=call_rev h
         have hno:(d.who a.x t).2.ops=[]:=List.eq_nil_iff_forall_not_mem.2 fun o ho=>(ops_at (Q:=fun _=>False) (fun o ho=>by cases ho) o ho)
         refine ⟨fun _=>hr2,?_,.inl ⟨keeps_of (one_who hd _ _ _) h,by omega⟩,Nat.le_of_eq hr2,fun hn=>absurd hno hn⟩
         refine Nat.le_trans (call_len h ?_) (Nat.le_of_eq hr2.symm)
         obtain ⟨ht,hl,he⟩:=at_done h
         simp only [hl,if_true]
         exact Nat.zero_le _
        ·rename_i h7
         rw [if_neg h7]
         exact ⟨fun hk=>by omega,Nat.zero_le _,.inl ⟨Keeps.fails d 0 _,by omega⟩,Nat.zero_le _,fun hn=>absurd rfl hn⟩
open Go.RowKit
open Pl (Un)
set_option maxHeartbeats 400000 in
theorem new_past (w:World) :
  Calls Tryz.prog 41 #[.int .u64 0,.int .i64 0] w fun e w'=>e=.returned (.tuple #[.pointer (some ⟨w.heap.size + 1,0,none⟩),.int .i64 0])∧PastAt w' (w.heap.size + 1) (fun b=>b=w.heap.size) 0 0 []∧Below w.heap.size w w':=by
 have hM:PastAt ((w.alloc (.cells #[.int .i64 0] 3)).alloc (.cells #[.int .u64 0,.slice none 0 0,.slice (some ⟨w.heap.size,0,none⟩) 1 1] 166)) (w.heap.size + 1) (fun b=>b=w.heap.size) 0 0 []:=by
  have h1:OwnR encI 1 3 (w.alloc (.cells #[.int .i64 0] 3)) w.heap.size (.slice (some ⟨w.heap.size,0,none⟩) 1 1) [0]:=litI w [0] (by simp [maxLen])
  have h2:=(h1.alloc (.cells #[.int .u64 0,.slice none 0 0,.slice (some ⟨w.heap.size,0,none⟩) 1 1] 166)).rws encI_len
  refine ⟨none,0,0,some ⟨w.heap.size,0,none⟩,1,1,[],?_,OpsF.none_ _ _,rfl,?_,?_,fun h=>absurd h (Nat.succ_ne_self _),⟨by simp,by simp,fun o ho=>by cases ho⟩⟩
  ·exact heap_new (by simp)
  ·rw [Pl.lens_nil];exact h2.2
  ·intro _ ad e
   cases e
   rfl
 have HM:=Lib.hid hM
 have z1:decide ((0:Int) > 1099511627776)=false:=by decide
 clear hM
 go_enter Tryz.func41,Tryz.ntmps41
 go_wp2_with fail
 go_returns
 exact ⟨rfl,HM.out,below_alloc (below_box _ _) _⟩
noncomputable def newK (D p0 s0 s1 lp lb s2:Nat) (F:Nat→Prop):Nat→Nat:=fun b =>
 if b=D then 1 else if b=p0 then 4 else if s0≤b∧b<s1 then 2 else if b=lp then 5 else if b=lb then 6 else if b=s2 + 1 then 7 else if b=s2 then 8 else @ite _ (F b) (Classical.propDecidable _) 3 0
set_option maxHeartbeats 1000000 in
theorem newD_any (w:World) :
  Calls Tryz.prog 8 #[] w fun e w'=>∃ D k,e=.returned (.pointer (some ⟨D,0,none⟩))∧DocAt w' D k Pl.Dc.zero 0∧(∀ b,k b≠0→w.heap.size≤b)∧Below w.heap.size w w':=by
 obtain ⟨R,hR⟩ : ∃ R:Ending→World→Prop,R=fun e w'=>∃ D k,e=.returned (.pointer (some ⟨D,0,none⟩))∧DocAt w' D k Pl.Dc.zero 0∧(∀ b,k b≠0→w.heap.size≤b)∧Below w.heap.size w w':=⟨_,rfl⟩
 rw [← hR]
 have HR:=Lib.hid hR
 clear hR
 go_enter Tryz.func8,Tryz.ntmps8
 go_wp2_with fail
 refine (new_past w).mono ?_
 rintro e w1 ⟨rfl,hp1,hb1⟩
 have HP:=Lib.hid (And.intro hp1 hb1)
 clear hp1 hb1
 go_wp2_with fail
 refine (Ls.new_any0 (w:=w1) (A:=none) (n:=0) (c:=0) (l:=[]) (Rws.none_ _ _ _) (by decide) (fun o ho=>by cases ho)).mono ?_
 rintro e w2 ⟨hl,_,hb2⟩
 obtain ⟨lp,lb,rfl,hl1,hl2,hl3⟩:=hl rfl
 have HL:=Lib.hid (And.intro hl1 (And.intro hl2 (And.intro hl3 hb2)))
 clear hl hl1 hl2 hl3 hb2
 go_wp2_with fail
 refine (newM_any 0 w2 ⟨by decide,by decide⟩).mono ?_
 rintro e w3 ⟨rfl,hm3,hb3⟩
 have HM:=Lib.hid (And.intro hm3 hb3)
 clear hm3 hb3
 go_wp2_with fail
 refine (Tbl.new_any none 0 0 [] w3 (Crs.none_ _ _) (by decide)).mono ?_
 rintro e w4 ⟨tx,F,rfl,ht4,hF4,hb4⟩
 have HT:=Lib.hid (And.intro ht4 (And.intro hF4 hb4))
 clear ht4 hF4 hb4
 go_wp2_with fail
 rw [HR.out]
 obtain ⟨hp,hb1⟩:=HP.out
 obtain ⟨hl1,hl2,hl3,hb2⟩:=HL.out
 obtain ⟨hm3,hb3⟩:=HM.out
 obtain ⟨ht4,hF4,hb4⟩:=HT.out
 have hb5:=below_box w4 (.cells #[.int .u64 0,.pointer (some ⟨w.heap.size + 1,0,none⟩),.pointer (some ⟨tx,0,none⟩),.pointer (some ⟨lp,0,none⟩),.pointer (some ⟨w2.heap.size + 1,0,none⟩)] 87)
 have s1:=hp.lt
 have s2:=hl3.lt
 have s2':=hl3.own.lt
 have s3:=hm3.lt
 have z1:=hb1.size
 have z2:=hb2.size
 have z3:=hb3.size
 have z4:=hb4.size
 have hne:=hl3.ne
 have hFl:=ht4.lt
 have k3:∀ b,F b→newK w4.heap.size (w.heap.size + 1) w.heap.size w1.heap.size lp lb w2.heap.size F b=3:=fun b hb=>by
  have h1:=hF4 b hb
  have h2:=hFl b hb
  unfold newK
  rw [if_neg (by omega),if_neg (by omega),if_neg (by omega),if_neg (by omega),if_neg (by omega),if_neg (by omega),if_neg (by omega),if_pos hb]
 have kk:∀ b,newK w4.heap.size (w.heap.size + 1) w.heap.size w1.heap.size lp lb w2.heap.size F b≠0→w.heap.size≤b∧b<w4.heap.size + 1:=fun b hb=>by
  unfold newK at hb
  split at hb
  ·omega
  ·split at hb
   ·omega
   ·split at hb
    ·omega
    ·split at hb
     ·omega
     ·split at hb
      ·omega
      ·split at hb
       ·omega
       ·split at hb
        ·omega
        ·by_cases hf:F b
         ·have:=hF4 b hf;have:=hFl b hf;omega
         ·rw [if_neg hf] at hb;exact absurd rfl hb
 have hsz:(w4.alloc (.cells #[.int .u64 0,.pointer (some ⟨w.heap.size + 1,0,none⟩),.pointer (some ⟨tx,0,none⟩),.pointer (some ⟨lp,0,none⟩),.pointer (some ⟨w2.heap.size + 1,0,none⟩)] 87)).heap.size=w4.heap.size + 1:=by simp
 refine ⟨w4.heap.size,newK w4.heap.size (w.heap.size + 1) w.heap.size w1.heap.size lp lb w2.heap.size F,rfl,⟨⟨w.heap.size + 1,tx,lp,w2.heap.size + 1,⟨heap_alloc_new w4 _,?_,?_,?_,?_,?_,?_,?_,?_,fun b hb=>by rw [hsz];exact (kk b hb).2⟩⟩,Pl.Dc.ok_zero⟩,fun b hb=>(kk b hb).1,below_then (below_then (below_then (below_then hb1 hb2) hb3) hb4) hb5⟩
 ·refine ((((hp.then_ hb2).then_ hb3).then_ hb4).then_ hb5).more (fun b hb=>?_) ?_
  ·unfold newK
   rw [if_neg (by omega),if_neg (by omega),if_pos (by omega)]
  ·unfold newK
   rw [if_neg (by omega),if_pos rfl]
   decide
 ·exact ⟨_,(ht4.then_ hb5).wider (fun b hb=>k3 b hb) (fun b hb=>by rw [hsz];exact (kk b (by rw [show newK w4.heap.size (w.heap.size + 1) w.heap.size w1.heap.size lp lb w2.heap.size F b=3 from hb];decide)).2),Tbl.Tp.fresh_text []⟩
 ·refine ⟨lb,((hl3.then_ hb3).then_ hb4).then_ hb5,?_⟩
  unfold newK
  rw [if_neg (by omega),if_neg (by omega),if_neg (by omega),if_neg (by omega),if_pos rfl]
 ·refine ⟨w2.heap.size,((hm3.then_ hb4).then_ hb5),?_⟩
  unfold newK
  rw [if_neg (by omega),if_neg (by omega),if_neg (by omega),if_neg (by omega),if_neg (by omega),if_neg (by omega),if_pos rfl]
 ·unfold newK
  rw [if_pos rfl]
 ·unfold newK
  rw [if_neg (by omega),if_pos rfl]
 ·unfold newK
  rw [if_neg (by omega),if_neg (by omega),if_neg (by omega),if_pos rfl]
 ·unfold newK
  rw [if_neg (by omega),if_neg (by omega),if_neg (by omega),if_neg (by omega),if_neg (by omega),if_pos rfl]
def AnK (w:World) (k:Nat→Nat) (al:Nat) (a:Pl.An):Prop:=∃ A n c A2 n2 c2 A3 n3 c3,AnAt w al a.e (a.rev:Int) a.whole A n c A2 n2 c2 A3 n3 c3∧AnR w (fun b=>k b=0) A n c A2 n2 c2 A3 n3 c3 a∧k al=0
theorem AnK.mv {w w':World} {k k':Nat→Nat} {al:Nat} {a:Pl.An} (h:AnK w k al a) (hv:Mv k w k' w'):AnK w' k' al a:=by
 obtain ⟨A,n,c,A2,n2,c2,A3,n3,c3,h1,h2,h3⟩:=h
 exact ⟨A,n,c,A2,n2,c2,A3,n3,c3,hv.old h1 h3,(h2.old.tn hv.tn (fun b hb hn=>hn hb.1)).more fun b hb=>(hv.eq b hb.2).trans hb.1,(hv.eq al h1.lt).trans h3⟩
theorem AnK.new {w0 w:World} {k:Nat→Nat} {A:Option Addr} {n c:Nat} {A2:Option Addr} {n2 c2:Nat} {A3:Option Addr} {n3 c3:Nat} {a:Pl.An} (hk:∀ b,k b≠0→b<w.heap.size) (hr:AnR w (fun b=>w0.heap.size≤b∧k b=0) A n c A2 n2 c2 A3 n3 c3 a) :
  AnK (w.alloc (.cells #[.int .i64 a.e,.int .u32 0,.int .u64 (a.rev:Int),.bool a.whole,.slice A n c,.slice A2 n2 c2,.slice A3 n3 c3] 37)) k w.heap.size a :=
 ⟨A,n,c,A2,n2,c2,A3,n3,c3,heap_alloc_new w _,(hr.tn (Tn.of (fun _=>False) (below_box w _)) (fun _ _ h=>h)).more fun b hb=>hb.2,box_zero k _ hk (Nat.le_refl _)⟩
open Go.RowKit
open Pl (Un)
namespace Pl
namespace Dc
def aw1:Dc × An:=zero.open_ 1 0 5
def aw2:Dc × An:=aw1.1.edit 1 1 0 [⟨1,0,97,1,1⟩] 6
def aw3:Dc × An:=aw2.1.open_ 2 1 7
def aw4:Dc × An:=aw3.1.edit 2 1 0 [⟨1,0,98,2,1⟩] 8
def aw5:Dc × An:=aw4.1.undo 1 2 1 9
def aw6:Dc × An:=aw5.1.undo 2 2 1 9
def aw7:Dc × An:=aw6.1.edit 3 1 0 [] 9
theorem aw_t:aw1.1.t=1∧aw2.1.t=2∧aw3.1.t=3∧aw4.1.t=4∧aw5.1.t=5∧aw6.1.t=6∧aw7.1.t=7:=by decide +kernel
theorem aw_1:aw1.2.e=0∧aw1.2.whole=true∧aw1.2.rev=0:=by decide +kernel
theorem aw_2:aw2.2.e=0∧aw2.2.rev=1∧aw2.2.ops.length=1:=by decide +kernel
theorem aw_3:aw3.2.rev=1:=by decide +kernel
theorem aw_4:aw4.2.rev=2∧aw4.2.ops.length=2∧(aw4.2.ops.getD 1 default).l.length=1∧((aw4.2.ops.getD 1 default).l.getD 0 default).p=1:=by decide +kernel
theorem aw_5:aw5.2.rev=3∧aw5.2.ops.length=1∧(aw5.2.ops.getD 0 default).l.length=1∧((aw5.2.ops.getD 0 default).l.getD 0 default).k=2∧((aw5.2.ops.getD 0 default).l.getD 0 default).p=0:=by decide +kernel
theorem aw_6:aw6.2.e=33:=by decide +kernel
theorem aw_7:aw7.2.e=36∧aw7.1.cs=[98]:=by decide +kernel
end Dc
end Pl
end Go.Proofs.YtlgdcelgkiipaaaGreat
