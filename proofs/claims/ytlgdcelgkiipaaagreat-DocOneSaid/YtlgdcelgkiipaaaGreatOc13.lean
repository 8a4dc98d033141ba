/-
  A document in plain words: its leases and marks (OkM), one past (Hist), and that all of it stays with every call.
  A document in plain words: each call keeps Ok; what a call has done to text and past (Did), one past (Hist).
  edit.Own, edit.Grows, copybookref08.Same at rows of units of any length that memory holds (layer 10 bounds no row). Conditions: those that each states.
  past.own: an operation in new memory. Condition: its units are of at most 2^47 bytes.
-/
import Derived.Test.YtlgdcelgkiipaaaGreatOc12
import Derived.Test.YtlgdcelgkiipaaaGreatOc09
import Derived.Test.YtlgdcelgkiipaaaGreatOc11
import Derived.Test.YtlgdcelgkiipaaaGreatOc01
set_option maxRecDepth 100000
set_option linter.unusedVariables false
namespace Go.Proofs.YtlgdcelgkiipaaaGreat
open Go.RowKit
open Pl (Un)
namespace Pl
theorem get_drops (cs:List Int):∀ {M:Mks},Rising M→∀ c,getM (dropsM M cs) c=if c ∈ cs then none else getM M c:=by
 induction cs with
 | nil=>intro M _ c;simp [dropsM]
 | cons x r ih =>
  intro M h c
  show getM (dropsM (delM M x) r) c=_
  rw [ih (rising_del h x),get_del h]
  by_cases h1:c=x
  ·simp [h1]
  ·simp [h1]
theorem mem_put {M:Mks} {c v:Int} {p:Int × Int}:p ∈ putM M c v↔p=(c,v)∨p ∈ M∧p.1≠c:=by
 unfold putM
 rw [mem_ins,mem_del]
theorem len_put_old {M:Mks} {c v:Int} (h:getM M c≠none):(putM M c v).length≤M.length:=by
 unfold putM
 rw [len_ins]
 have:∃ p ∈ M,p.1=c:=by
  refine Classical.byContradiction fun hn=>h (get_none.2 fun p hp hc=>hn ⟨p,hp,hc⟩)
 obtain ⟨p,hp,hc⟩:=this
 show (M.filter _).length<M.length
 refine List.length_filter_lt_length_iff_exists.2 ⟨p,hp,?_⟩
 simp [hc]
theorem live_get {L:Mks} {c t:Int} (h:liveM L c t=true):getM L c≠none:=by
 intro hn
 rw [live_none hn] at h
 cases h
namespace Dc
theorem goR_long {l:List Un} {n m p:Int} (h:longL l n=(m,0)) (hb:n + l.length≤1099511627776) (h0:0≤p) (h1:p≤n):0≤placeR p l∧placeR p l≤m :=
 have:=placeR_keeps h h0 (Int.le_refl p) h1 hb
 ⟨this.1,this.2.2⟩
structure OkM (d:Dc):Prop where
 low:Rising d.L
 few:d.L.length≤16
 far:∀ p ∈ d.L,0≤p.1∧p.1≤4294967295∧0≤p.2∧p.2≤1099511627840
 rsM:Rising d.M
 who:∀ c,getM d.M c=none↔getM d.L c=none
 inn:∀ p ∈ d.M,0≤p.2∧p.2≤d.cs.length
structure Ok (d:Dc):Prop where
 p:OkP d
 m:OkM d
theorem core_touched (d:Dc) (t:Int):Core d (d.touched t):=⟨rfl,rfl,rfl,rfl⟩
theorem core_renewed (d:Dc) (c t:Int):Core d (d.renewed c t):=⟨rfl,rfl,rfl,rfl⟩
theorem ok_touched {d:Dc} (h:Ok d) (t:Int):Ok (d.touched t):=by
 refine ⟨h.p.core (core_touched d t),?_⟩
 have hw:=get_drops (whichM false t d.L) h.m.low
 rw [drops_which h.m.low] at hw
 have hm:=get_drops (whichM false t d.L) h.m.rsM
 refine ⟨rising_there h.m.low t,Nat.le_trans (List.length_filter_le _ _) h.m.few,fun p hp=>h.m.far p (List.mem_filter.1 hp).1,rising_drops _ h.m.rsM,fun c=>?_,fun p hp=>h.m.inn p ((drops_mem _ _ _).1 hp).1⟩
 show getM (dropsM d.M (whichM false t d.L)) c=none↔getM (thereM t d.L) c=none
 rw [hm c,hw c]
 split
 ·simp
 ·exact h.m.who c
theorem tick_le {L:Mks} {c t:Int} (hL:∀ p ∈ L,0≤p.1∧p.1≤4294967295∧0≤p.2∧p.2≤1099511627840) (hr:Rising L) (h0:0≤t) (ht:t≤1099511627776):0≤tickM L c t∧tickM L c t≤1099511627840:=by
 unfold tickM
 cases hg:getM L c with
 | none=>simp only;omega
 | some u =>
  have:=hL _ ((get_iff hr).1 hg)
  simp only at this ⊢
  split <;> omega
theorem setL_ok {L:Mks} {c t:Int} (hr:Rising L) (hf:L.length≤16) (hL:∀ p ∈ L,0≤p.1∧p.1≤4294967295∧0≤p.2∧p.2≤1099511627840) (h0:0≤t) (hc:0≤c∧c≤4294967295) :
  Rising (setL L c t).2∧(setL L c t).2.length≤16∧(∀ p ∈ (setL L c t).2,0≤p.1∧p.1≤4294967295∧0≤p.2∧p.2≤1099511627840):=by
 unfold setL
 split
 ·exact ⟨hr,hf,hL⟩
 ·rename_i ht
  split
  ·exact ⟨hr,hf,hL⟩
  ·rename_i hn
   have htk:=tick_le hL hr h0 (by omega) (c:=c)
   refine ⟨rising_put hr _ _,?_,fun p hp=>?_⟩
   ·show (putM L c (tickM L c t)).length≤16
    by_cases hg:getM L c=none
    ·have:=len_put_le L c (tickM L c t)
     have:¬ 16≤L.length:=fun h=>hn ⟨hg,h⟩
     omega
    ·exact Nat.le_trans (len_put_old hg) hf
   ·rcases mem_put.1 hp with rfl | hp
    ·exact ⟨hc.1,hc.2,htk.1,htk.2⟩
    ·exact hL p hp.1
theorem get_setL {L:Mks} {c t:Int} (hr:Rising L) (h:(setL L c t).1=0) (x:Int):getM (setL L c t).2 x=if x=c then some (tickM L c t) else getM L x:=by
 unfold setL at h ⊢
 split at h
 ·cases h
 ·rename_i h1
  split at h
  ·cases h
  ·rename_i h2
   rw [if_neg h1,if_neg h2]
   exact get_put hr _ _ _
theorem set_live {L:Mks} {c t:Int} (h:liveM L c t=true) (ht:t≤1099511627776):(setL L c t).1=0:=by
 unfold setL
 rw [if_neg (by omega),if_neg (fun hh=>live_get h hh.1)]
theorem ok_renewed {d:Dc} (h:Ok d) {c t:Int} (hl:getM d.L c≠none) (h0:0≤t) (ht:t≤1099511627776) (hc:0≤c∧c≤4294967295):Ok (d.renewed c t):=by
 refine ⟨h.p.core (core_renewed d c t),?_⟩
 have hs:=setL_ok (c:=c) h.m.low h.m.few h.m.far h0 hc
 have he:(setL d.L c t).1=0:=by unfold setL;rw [if_neg (by omega),if_neg (fun hh=>hl hh.1)]
 refine ⟨hs.1,hs.2.1,hs.2.2,h.m.rsM,fun x=>?_,h.m.inn⟩
 show getM d.M x=none↔getM (setL d.L c t).2 x=none
 rw [get_setL h.m.low he]
 split
 ·rename_i hx
  subst hx
  rw [h.m.who]
  simp [hl]
 ·exact h.m.who x
theorem ok_behind {d:Dc} (h:Ok d) {x y:Int} {row:List Un} (hb:d.bars row=0) (hl:row.length≤256) (hi:∀ u ∈ row,u.x=x∧u.y=y):Ok (d.behind x y row):=by
 refine ⟨h.p.behind hb hl hi,?_⟩
 obtain ⟨rf,rF,re,rg,rl⟩:=ripe_all h.p hb
 refine ⟨h.m.low,h.m.few,h.m.far,(rising_go h.m.rsM (fun p=>placeR p (d.ripe row)):Rising (goM (fun p=>placeR p (d.ripe row)) d.M)),fun c=>?_,fun p hp=>?_⟩
 ·show getM (goM (fun p=>placeR p (d.ripe row)) d.M) c=none↔getM d.L c=none
  rw [get_go,← h.m.who c]
  simp
 ·obtain ⟨q,hq,rfl⟩:=List.mem_map.1 (show p ∈ goM (fun p=>placeR p (d.ripe row)) d.M from hp)
  have hqi:=h.m.inn q hq
  have h4:=h.p.lt4096
  have:=goR_long (long_of_fit rf) (by omega) hqi.1 hqi.2
  rw [re] at this
  exact this
theorem ok_cut {d:Dc} (h:Ok d) {k:Nat} (hk:k≤d.P.length):Ok (d.cut k):=⟨h.p.cut hk,⟨h.m.low,h.m.few,h.m.far,h.m.rsM,h.m.who,h.m.inn⟩⟩
theorem ok_mark {d:Dc} (h:Ok d) (k:Nat):Ok (d.mark k):=⟨h.p.mark k,⟨h.m.low,h.m.few,h.m.far,h.m.rsM,h.m.who,h.m.inn⟩⟩
theorem go_later {d:Dc} (h:OkP d):∀ (j k:Nat) (p:Int),k + j=d.P.length→0≤p→p≤d.n + total (d.P.take k)→0≤(d.P.drop k).foldl (fun p o=>placeR p o.l) p∧(d.P.drop k).foldl (fun p o=>placeR p o.l) p≤d.cs.length
 | 0,k,p,hk,h0,h1=>by
  rw [List.drop_of_length_le (by omega)]
  have hl:=h.len
  rw [List.take_of_length_le (by omega)] at h1
  exact ⟨h0,by rw [hl];exact h1⟩
 | j + 1,k,p,hk,h0,h1=>by
  have hlt:k<d.P.length:=by omega
  rw [List.drop_eq_getElem_cons hlt,List.foldl_cons]
  have hf:=h.fits k hlt
  have ht:=total_take hlt
  have hok:=longL_ok hf
  have ho:d.P.getD k default=d.P[k]:=by rw [List.getD_eq_getElem?_getD,List.getElem?_eq_getElem hlt];rfl
  have hrow:=(h.row _ (List.getElem_mem hlt)).1
  have htop:=h.top k (by omega)
  rw [ho] at hf hok ht
  have hg:=goR_long (l:=d.P[k].l) (n:=d.n + total (d.P.take k)) (m:=(longL d.P[k].l (d.n + total (d.P.take k))).1) (Prod.ext rfl hf) (by omega) h0 h1
  exact go_later h j (k + 1) (placeR p d.P[k].l) (by omega) hg.1 (by omega)
theorem ok_move {d:Dc} (h:Ok d) {c:Int} {rev:Nat} {pos t:Int} (hl:liveM d.L c t=true) (h1:d.fr≤rev∧rev≤d.now) (h2:0≤pos∧pos≤d.long rev):Ok { d with M:=putM d.M c (d.placed rev pos) }:=by
 have hb:rev - d.fr + (d.P.length - (rev - d.fr))=d.P.length:=by
  have:=h1.2
  unfold now at this
  omega
 have hg:=go_later h.p (d.P.length - (rev - d.fr)) (rev - d.fr) pos hb h2.1 h2.2
 refine ⟨h.p.core ⟨rfl,rfl,rfl,rfl⟩,h.m.low,h.m.few,h.m.far,rising_put h.m.rsM _ _,fun x=>?_,fun p hp=>?_⟩
 ·show getM (putM d.M c _) x=none↔getM d.L x=none
  rw [get_put h.m.rsM]
  split
  ·rename_i hx
   subst hx
   simp [live_get hl]
  ·exact h.m.who x
 ·rcases mem_put.1 hp with rfl | hp
  ·exact hg
  ·exact h.m.inn p hp.1
theorem ok_opened {d:Dc} (h:Ok d) {c t:Int} (he:(setL d.L c t).1=0) (h0:0≤t) (hc:0≤c∧c≤4294967295):Ok { d with L:=(setL d.L c t).2,M:=if getM d.M c=none then putM d.M c 0 else d.M }:=by
 have hs:=setL_ok (c:=c) h.m.low h.m.few h.m.far h0 hc
 refine ⟨h.p.core ⟨rfl,rfl,rfl,rfl⟩,hs.1,hs.2.1,hs.2.2,?_,fun x=>?_,fun p hp=>?_⟩
 ·show Rising (if getM d.M c=none then putM d.M c 0 else d.M)
  split
  ·exact rising_put h.m.rsM _ _
  ·exact h.m.rsM
 ·show getM (if getM d.M c=none then putM d.M c 0 else d.M) x=none↔getM (setL d.L c t).2 x=none
  rw [get_setL h.m.low he]
  split
  ·rw [get_put h.m.rsM]
   split
   ·simp
   ·exact h.m.who x
  ·rename_i hn
   split
   ·rename_i hx
    subst hx
    simp [hn]
   ·exact h.m.who x
 ·have hp':p ∈ (if getM d.M c=none then putM d.M c 0 else d.M):=hp
  show 0≤p.2∧p.2≤d.cs.length
  split at hp'
  ·rcases mem_put.1 hp' with rfl | hp'
   ·exact ⟨Int.le_refl _,by omega⟩
   ·exact h.m.inn p hp'.1
  ·exact h.m.inn p hp'
theorem ok_left {d:Dc} (h:Ok d) (c:Int):Ok { d with L:=delM d.L c,M:=delM d.M c }:=by
 refine ⟨h.p.core ⟨rfl,rfl,rfl,rfl⟩,rising_del h.m.low c,Nat.le_trans (len_del_le _ _) h.m.few,fun p hp=>h.m.far p (mem_del.1 hp).1,rising_del h.m.rsM c,fun x=>?_,fun p hp=>h.m.inn p (mem_del.1 hp).1⟩
 show getM (delM d.M c) x=none↔getM (delM d.L c) x=none
 rw [get_del h.m.rsM,get_del h.m.low]
 split
 ·simp
 ·exact h.m.who x
theorem ok_zero:Ok Dc.zero :=
 ⟨⟨rfl,(fun c hc=>by cases hc),by decide,by decide,(fun i _=>by simp [Dc.zero,total]),(fun o ho=>by cases ho),(fun i hi=>absurd hi (by simp [Dc.zero]))⟩,
  ⟨rising_nil,by decide,(fun p hp=>by cases hp),rising_nil,(fun c=>by simp [Dc.zero]),(fun p hp=>by cases hp)⟩⟩
end Dc
end Pl
open Go.RowKit
open Pl (Un)
namespace Pl
namespace Dc
theorem call_late {d:Dc} {t:Int} (h:1099511627776<t) (f:Dc→Dc × An):d.call t f=(d,fails 1):=by unfold call;rw [if_pos h]
theorem call_on {d:Dc} {t:Int} (h:¬ 1099511627776<t) (f:Dc→Dc × An):d.call t f=((f (d.touched t)).1,if (f (d.touched t)).2.e=0 then { (f (d.touched t)).2 with rev:=(f (d.touched t)).1.now } else (f (d.touched t)).2):=by unfold call;rw [if_neg h]
theorem editE_zero {d:Dc} {x y:Int} {base:Nat} {row:List Un} (h:d.editE x y base row=0) :
  (∀ u ∈ row,Okay u∧u.x=x∧u.y=y)∧d.fr≤base∧base≤d.now∧row.length≤256∧(longL row (d.long base)).2=0∧d.bars (d.editRow base row)=0:=by
 unfold editE at h
 split at h
 ·cases h
 ·rename_i h1
  split at h
  ·rename_i h2;exact absurd h h2
  ·rename_i h2
   split at h
   ·cases h
   ·rename_i h3
    split at h
    ·rename_i h4;exact absurd h h4
    ·rename_i h4
     have hp:=place_zero.1 (Decidable.not_not.1 h2)
     refine ⟨fun u hu=>?_,by omega,by unfold now;omega,by omega,Decidable.not_not.1 h4,h⟩
     refine Classical.byContradiction fun hn=>h1 ⟨u,hu,?_⟩
     by_cases ho:Okay u
     ·by_cases hx:u.x=x
      ·by_cases hy:u.y=y
       ·exact absurd ⟨ho,hx,hy⟩ hn
       ·exact .inr (.inr hy)
      ·exact .inr (.inl hx)
     ·exact .inl ho
theorem undoE_zero {d:Dc} {x y:Int} {rev:Nat} (h:d.undoE x y rev=0) :
  d.fr + 1≤rev∧rev≤d.now∧(d.opAt rev).x=x∧(d.opAt rev).b=false∧d.bars (d.undoRow x y rev)=0:=by
 unfold undoE at h
 split at h
 ·cases h
 ·split at h
  ·rename_i h2;exact absurd h h2
  ·rename_i h2
   split at h
   ·cases h
   ·rename_i h3
    split at h
    ·cases h
    ·rename_i h4
     have hp:=place_zero.1 (Decidable.not_not.1 h2)
     exact ⟨by omega,by unfold now;omega,Decidable.not_not.1 h3,by simpa using h4,h⟩
theorem edit_row {d:Dc} {x y:Int} {base:Nat} {row:List Un} (h:d.editE x y base row=0):(d.editRow base row).length≤256∧∀ u ∈ d.editRow base row,u.x=x∧u.y=y:=by
 obtain ⟨h1,_,_,h2,_,_⟩:=editE_zero h
 refine ⟨by unfold editRow;rw [past_len];exact h2,fun u hu=>?_⟩
 obtain ⟨v,hv,e1,e2⟩:=past_ids _ _ u hu
 exact ⟨e1.trans (h1 v hv).2.1,e2.trans (h1 v hv).2.2⟩
theorem op_mem {d:Dc} {rev:Nat} (h1:d.fr + 1≤rev) (h2:rev≤d.now):d.opAt rev ∈ d.P:=by
 unfold now at h2
 unfold opAt
 have:rev - d.fr - 1<d.P.length:=by omega
 rw [List.getD_eq_getElem?_getD,List.getElem?_eq_getElem this]
 exact List.getElem_mem this
theorem undo_row {d:Dc} (hd:Ok d) {x y:Int} {rev:Nat} (h:d.undoE x y rev=0):(d.undoRow x y rev).length≤256∧∀ u ∈ d.undoRow x y rev,u.x=x∧u.y=y:=by
 obtain ⟨h1,h2,_,_,_⟩:=undoE_zero h
 exact ⟨Nat.le_trans (back_len _ _ _ _) (hd.p.row _ (op_mem h1 h2)).1,back_ids _ _ _ _⟩
structure Kept (d:Dc) (r:Dc × An):Prop where
 ok:Ok r.1
 L:r.1.L=d.L
theorem ok_call {d:Dc} (h:Ok d) {t:Int} {f:Dc→Dc × An} (hf:¬ 1099511627776<t→Ok (d.touched t)→Ok (f (d.touched t)).1):Ok (d.call t f).1:=by
 by_cases ht:1099511627776<t
 ·rw [call_late ht];exact h
 ·rw [call_on ht];exact hf ht (ok_touched h t)
theorem ok_at {d:Dc} (h:Ok d) {c t:Int} (h0:0≤t) (hc:0≤c∧c≤4294967295) {f:Dc→Dc × An} (hf:∀ d,Ok d→liveM d.L c t=true→Kept d (f d)):Ok (d.at_ c t f).1:=by
 refine ok_call h fun ht ho=>?_
 by_cases hl:liveM (d.touched t).L c t=true
 ·simp only [hl,if_true]
  have hk:=hf _ ho hl
  split
  ·exact ok_renewed hk.ok (by rw [hk.L];exact live_get hl) h0 (by omega) hc
  ·exact hk.ok
 ·simp only [hl]
  exact ho
theorem tells_e (d:Dc) (rev:Nat) (whole:Bool):(d.tells rev whole).e=0∨(d.tells rev whole)=fails 31:=by
 unfold tells
 split
 ·exact .inr rfl
 ·split
  ·exact .inl rfl
  ·exact .inl rfl
theorem ok_open {d:Dc} (h:Ok d) {c t:Int} (h0:0≤t) (hc:0≤c∧c≤4294967295) (rev:Nat):Ok (d.open_ c rev t).1:=by
 refine ok_call h fun ht ho=>?_
 try dsimp only
 split
 ·exact ho
 ·split
  ·exact ho
  ·rename_i he
   exact ok_opened ho (Decidable.not_not.1 he) h0 hc
theorem ok_leave {d:Dc} (h:Ok d) (c t:Int):Ok (d.leave_ c t).1:=by
 refine ok_call h fun ht ho=>?_
 try dsimp only
 split
 ·exact ok_left ho c
 ·exact ho
theorem ok_edit {d:Dc} (h:Ok d) {x y t:Int} (h0:0≤t) (hc:0≤x∧x≤4294967295) (base:Nat) (row:List Un):Ok (d.edit x y base row t).1:=by
 refine ok_at h h0 hc fun d ho _=>?_
 try dsimp only
 split
 ·exact ⟨ho,rfl⟩
 ·rename_i he
  have hr:=edit_row (Decidable.not_not.1 he)
  exact ⟨ok_behind ho (editE_zero (Decidable.not_not.1 he)).2.2.2.2.2 hr.1 hr.2,rfl⟩
theorem ok_undo {d:Dc} (h:Ok d) {x y t:Int} (h0:0≤t) (hc:0≤x∧x≤4294967295) (rev:Nat):Ok (d.undo x y rev t).1:=by
 refine ok_at h h0 hc fun d ho _=>?_
 try dsimp only
 split
 ·exact ⟨ho,rfl⟩
 ·rename_i he
  have hr:=undo_row ho (Decidable.not_not.1 he)
  exact ⟨ok_mark (ok_behind ho (undoE_zero (Decidable.not_not.1 he)).2.2.2.2 hr.1 hr.2) _,rfl⟩
theorem ok_snap {d:Dc} (h:Ok d) (keep t:Int):Ok (d.snap keep t).1:=ok_call h fun _ ho=>ok_cut ho (Nat.sub_le _ _)
theorem ok_fetch {d:Dc} (h:Ok d) {c t:Int} (h0:0≤t) (hc:0≤c∧c≤4294967295) (rev:Nat) (most:Int):Ok (d.fetch c rev most t).1:=by
 refine ok_at h h0 hc fun d ho _=>?_
 try dsimp only
 split
 ·exact ⟨ho,rfl⟩
 ·split
  ·exact ⟨ho,rfl⟩
  ·exact ⟨ho,rfl⟩
theorem ok_moved {d:Dc} (h:Ok d) {c t:Int} (h0:0≤t) (hc:0≤c∧c≤4294967295) (rev:Nat) (pos:Int):Ok (d.move c rev pos t).1:=by
 refine ok_at h h0 hc fun d ho hl=>?_
 try dsimp only
 split
 ·exact ⟨ho,rfl⟩
 ·rename_i hp
  split
  ·exact ⟨ho,rfl⟩
  ·rename_i hq
   have:=place_zero.1 (Decidable.not_not.1 hp)
   exact ⟨ok_move ho hl ⟨by omega,by unfold now;omega⟩ ⟨by omega,by omega⟩,rfl⟩
theorem ok_who {d:Dc} (h:Ok d) {c t:Int} (h0:0≤t) (hc:0≤c∧c≤4294967295):Ok (d.who c t).1:=ok_at h h0 hc fun _ ho _=>⟨ho,rfl⟩
structure Hist (d:Dc) (H:Nat→List Int) (O:Nat→List Un):Prop where
 cur:H d.now=d.cs
 ops:∀ i,i<d.P.length→(d.P.getD i default).l=O (d.fr + i + 1)
 step:∀ r,r<d.now→FitR (O (r + 1)) (H r)∧leave (O (r + 1)) (H r)=H (r + 1)
def laid {α:Type} (H:Nat→α) (k:Nat) (x:α):Nat→α:=fun r=>if r=k then x else H r
theorem laid_at {α:Type} (H:Nat→α) (k:Nat) (x:α):laid H k x k=x:=if_pos rfl
theorem laid_ne {α:Type} (H:Nat→α) {k r:Nat} (x:α) (h:r≠k):laid H k x r=H r:=if_neg h
theorem Hist.zero (H:Nat→List Int) (O:Nat→List Un) (h:H 0=[]):Hist Dc.zero H O:=⟨h,fun i hi=>absurd hi (by simp [Dc.zero]),fun r hr=>absurd hr (by simp [Dc.now,Dc.zero])⟩
theorem Core.now {d d':Dc} (c:Core d d'):d'.now=d.now:=by unfold Dc.now;rw [c.fr,c.P]
theorem Hist.core {d d':Dc} {H:Nat→List Int} {O:Nat→List Un} (h:Hist d H O) (c:Core d d'):Hist d' H O :=
 ⟨by rw [c.now,c.cs];exact h.cur,by rw [c.P,c.fr];exact h.ops,by rw [c.now];exact h.step⟩
theorem Hist.behind {d:Dc} {H:Nat→List Int} {O:Nat→List Un} (h:Hist d H O) (ho:OkP d) {x y:Int} {row:List Un} (hb:d.bars row=0) :
  Hist (d.behind x y row) (laid H (d.now + 1) (leave (cleanL row) d.cs)) (laid O (d.now + 1) (d.ripe row)):=by
 obtain ⟨rf,rF,re,rg,rl⟩:=ripe_all ho hb
 refine ⟨?_,fun i hi=>?_,fun r hr=>?_⟩
 ·rw [now_behind,laid_at];rfl
 ·have hi2:i<d.P.length + 1:=by
   have:i<(d.P ++ [d.newOp x y row]).length:=hi
   rw [List.length_append] at this
   exact this
  show ((d.P ++ [d.newOp x y row]).getD i default).l=laid O (d.now + 1) (d.ripe row) (d.fr + i + 1)
  by_cases he:i<d.P.length
  ·rw [laid_ne _ _ (by unfold now;omega),← h.ops i he,List.getD_eq_getElem?_getD,List.getElem?_append_left he,← List.getD_eq_getElem?_getD]
  ·obtain rfl:i=d.P.length:=by omega
   rw [List.getD_eq_getElem?_getD,List.getElem?_append_right (Nat.le_refl _),Nat.sub_self]
   exact (laid_at O (d.now + 1) _).symm
 ·rw [now_behind] at hr
  by_cases he:r=d.now
  ·subst he
   rw [laid_at,laid_ne _ _ (by omega),laid_at,h.cur]
   exact ⟨rf,re⟩
  ·rw [laid_ne _ _ (by omega),laid_ne _ _ (by omega),laid_ne _ _ (by omega)]
   exact h.step r (by omega)
theorem Hist.cut {d:Dc} {H:Nat→List Int} {O:Nat→List Un} (h:Hist d H O) {k:Nat} (hk:k≤d.P.length):Hist (d.cut k) H O:=by
 have hn:(d.cut k).now=d.now:=by
  show d.fr + k + (d.P.drop k).length=d.fr + d.P.length
  rw [List.length_drop];omega
 refine ⟨by rw [hn];exact h.cur,fun i hi=>?_,by rw [hn];exact h.step⟩
 have hi2:i<(d.P.drop k).length:=hi
 rw [List.length_drop] at hi2
 show ((d.P.drop k).getD i default).l=O (d.fr + k + i + 1)
 rw [List.getD_eq_getElem?_getD,List.getElem?_drop,← List.getD_eq_getElem?_getD,h.ops (k + i) (by omega),Nat.add_assoc d.fr k i]
theorem Hist.mark {d:Dc} {H:Nat→List Int} {O:Nat→List Un} (h:Hist d H O) (k:Nat):Hist (d.mark k) H O:=by
 have hn:(d.mark k).now=d.now:=by
  show d.fr + (d.P.set k _).length=d.fr + d.P.length
  rw [List.length_set]
 refine ⟨by rw [hn];exact h.cur,fun i hi=>?_,by rw [hn];exact h.step⟩
 have hi2:i<(d.P.set k { d.P.getD k default with b:=true }).length:=hi
 rw [List.length_set] at hi2
 show ((d.P.set k { d.P.getD k default with b:=true }).getD i default).l=_
 rw [set_l]
 exact h.ops i hi2
theorem Hist.told {d:Dc} {H:Nat→List Int} {O:Nat→List Un} (h:Hist d H O) {rev k:Nat} (hr:d.fr≤rev) (hk:k<(d.later rev).length):((d.later rev).getD k default).l=O (rev + k + 1):=by
 unfold later at hk ⊢
 rw [List.length_drop] at hk
 rw [List.getD_eq_getElem?_getD,List.getElem?_drop,← List.getD_eq_getElem?_getD,h.ops _ (by omega)]
 congr 1
 omega
end Dc
end Pl
open Go.RowKit
open Pl (Un)
set_option maxHeartbeats 400000 in
theorem own_big (A:Option Addr) (n c:Nat) (l:List Un) (w:World) (h1:Uns w w.heap.size A n c l) (hr:n * 40≤140737488355328) :
  Calls Tryz.prog 229 #[.slice A n c] w (RetU w l):=by
 have HC:=Lib.hid (cloneU_big A n c l w h1 hr)
 clear h1
 go_enter Tryz.func229,Tryz.ntmps229
 go_wp2_with fail
 refine HC.out.mono ?_
 rintro e w' ⟨B,d,rfl,ho,hb⟩
 have HO:=Lib.hid ho
 have HB:=Lib.hid hb
 clear ho hb HC
 go_wp2_with fail
 go_ret
 exact ⟨B,d,rfl,HO.out,HB.out⟩
open Go.RowKit
open Pl (Un)
def OAt (w:World) (p:Nat) (x y:Int) (A:Option Addr) (n c:Nat) (b:Bool):Prop:=w.heap[p]?=some (.cells #[.int .u32 x,.int .u64 y,.slice A n c,.bool b] 45 (0,0))
section
variable {w w':World} {p n c B:Nat} {x y:Int} {A:Option Addr} {b:Bool}
theorem OAt.cells (h:OAt w p x y A n c b):w.cell? ⟨p,0,none⟩=some (.int .u32 x)∧w.cell? ⟨p,1,none⟩=some (.int .u64 y)∧w.cell? ⟨p,2,none⟩=some (.slice A n c)∧w.cell? ⟨p,3,none⟩=some (.bool b) :=
 ⟨cell0 (r:=[.int .u64 y,.slice A n c,.bool b]) h,cell1 (r:=[.slice A n c,.bool b]) h,cell2 (r:=[.bool b]) h,cell3 (r:=[]) h⟩
theorem OAt.lt (h:OAt w p x y A n c b):p<w.heap.size:=lt_of_block h
theorem OAt.frozen (h:OAt w p x y A n c b) (j:Nat):w.frozen? ⟨p,j,none⟩=false:=frozen_of_row w p j _ _ h
theorem OAt.tn {T:Nat→Prop} (h:OAt w p x y A n c b) (ht:Tn T w w') (hT:¬ T p):OAt w' p x y A n c b:=ht.old h hT
theorem OAt.then_ (h:OAt w p x y A n c b) (hb:Below w.heap.size w w'):OAt w' p x y A n c b:=below_old hb h h.lt
theorem OAt.sets (h:OAt w p x y A n c b) (x' y':Int) (A':Option Addr) (n' c':Nat) (b':Bool) :
  OAt ((((w.setCell ⟨p,0,none⟩ (.int .u32 x')).setCell ⟨p,1,none⟩ (.int .u64 y')).setCell ⟨p,2,none⟩ (.slice A' n' c')).setCell ⟨p,3,none⟩ (.bool b')) p x' y' A' n' c' b' :=
 blk_set (i:=3) (blk_set (i:=2) (blk_set (i:=1) (blk_set (i:=0) h (.int .u32 x')) (.int .u64 y')) (.slice A' n' c')) (.bool b')
theorem OAt.mark (h:OAt w p x y A n c b) (b':Bool):OAt (w.setCell ⟨p,3,none⟩ (.bool b')) p x y A n c b':=blk_set (i:=3) h (.bool b')
theorem tn_four (w:World) (p:Nat) (v0 v1 v2 v3:Value):Tn (fun b=>b=p) w ((((w.setCell ⟨p,0,none⟩ v0).setCell ⟨p,1,none⟩ v1).setCell ⟨p,2,none⟩ v2).setCell ⟨p,3,none⟩ v3):=by
 have h0:=(Tn.refl (fun b=>b=p) w).set_ (p:=⟨p,0,none⟩) (Or.inr rfl) v0
 have h1:=h0.set_ (p:=⟨p,1,none⟩) (Or.inr rfl) v1
 have h2:=h1.set_ (p:=⟨p,2,none⟩) (Or.inr rfl) v2
 exact h2.set_ (p:=⟨p,3,none⟩) (Or.inr rfl) v3
end
theorem results_op {fn:Func} {t:Tmp} {tmps:Array Value} {p:Nat} {Z:World} {x y:Int} {A:Option Addr} {n c:Nat} {b:Bool} (h:fn.results=#[.cell t 45]) (ha:tmps.getD t undef=.pointer (some ⟨p,0,none⟩)) (hZ:OAt Z p x y A n c b) :
  (results fn tmps).run Tryz.prog Z=.ok (.agg #[.int .u32 x,.int .u64 y,.slice A n c,.bool b]) Z:=by
 obtain ⟨c0,c1,c2,c3⟩:=hZ.cells
 have ha':tmps[t]?.getD undef=.pointer (some ⟨p,0,none⟩):=by simpa using ha
 simp [results,h,ha',go_sem,c0,c1,c2,c3]
def OwP (B:Nat) (l:List Un) (v:Value) (w:World):Prop:=∃ A c,v=.slice A l.length c∧OwnU w B (.slice A l.length c) l
def OwQ (B:Nat) (x y:Int) (l:List Un) (b:Bool) (v:Value) (w:World):Prop:=∃ A c,v=.agg #[.int .u32 x,.int .u64 y,.slice A l.length c,.bool b]∧OwnU w B (.slice A l.length c) l
theorem OwP.tn {B:Nat} {l:List Un} {v:Value} {w w':World} {s:Nat} (h:OwP B l v w) (ht:Tn (fun b=>b=s) w w') (hs:s<B):OwP B l v w':=by
 obtain ⟨A,c,e,h⟩:=h
 exact ⟨A,c,e,OwnR.tn h ht fun g hg e=>by have:=(h.lt g hg).1;omega⟩
theorem OwQ.tn {B:Nat} {x y:Int} {l:List Un} {b:Bool} {v:Value} {w w':World} {s:Nat} (h:OwQ B x y l b v w) (ht:Tn (fun b=>b=s) w w') (hs:s<B):OwQ B x y l b v w':=by
 obtain ⟨A,c,e,h⟩:=h
 exact ⟨A,c,e,OwnR.tn h ht fun g hg e=>by have:=(h.lt g hg).1;omega⟩
structure OwS (w0:World) (x y:Int) (A:Option Addr) (n c:Nat) (l:List Un) (b:Bool) (L:Nat→Bool) (w:World):Prop where
 src:OAt w w0.heap.size x y A n c b
 uns0:Uns w w0.heap.size A n c l
 pre:L 8=false→OAt w (w0.heap.size + 1) 0 0 none 0 0 false
 post:L 8=true→∃ A' c',OAt w (w0.heap.size + 1) x y A' l.length c' b∧OwnU w (w0.heap.size + 2) (.slice A' l.length c') l
 bel:Below w0.heap.size w0 w
 size:w0.heap.size + 2≤w.heap.size
def OwR (w0:World) (_:Nat) (w w':World):Prop:=Tn (fun b=>b=w0.heap.size + 1) w w'
section
variable {w0 w w':World} {n c i:Nat} {x y:Int} {A:Option Addr} {l:List Un} {b:Bool} {L:Nat→Bool}
theorem OwS.uns (h:OwS w0 x y A n c l b L w):Uns w w.heap.size A n c l:=Rws.more h.uns0 h.bel.size
theorem OwS.next (h:OwS w0 x y A n c l b L w) (hi:i≠8) (hb:Below w.heap.size w w'):OwS w0 x y A n c l b (Rq.up L i) w':=by
 have e:Rq.up L i 8=L 8:=by simp [Rq.up,hi]
 refine ⟨h.src.then_ hb,Rws.below h.uns0 hb h.bel.size,?_,?_,h.bel.trans (hb.mono h.bel.size),Nat.le_trans h.size hb.size⟩
 ·rw [e];exact fun hL=>(h.pre hL).then_ hb
 ·rw [e];exact fun hL=>(h.post hL).imp fun A' ⟨c',h1,h2⟩=>⟨c',h1.then_ hb,OwnR.then_ h2 hb⟩
theorem OwS.stay (h:OwS w0 x y A n c l b L w) (hi:i≠8):OwS w0 x y A n c l b (Rq.up L i) w:=h.next hi (Below.refl _ _)
theorem OwS.laid {A':Option Addr} {c':Nat} (h:OwS w0 x y A n c l b L w) (hL:L 8=false) (ho:OwnU w (w0.heap.size + 2) (.slice A' l.length c') l) :
  OwS w0 x y A n c l b (Rq.up L 8) ((((w.setCell ⟨w0.heap.size + 1,0,none⟩ (.int .u32 x)).setCell ⟨w0.heap.size + 1,1,none⟩ (.int .u64 y)).setCell ⟨w0.heap.size + 1,2,none⟩ (.slice A' l.length c')).setCell ⟨w0.heap.size + 1,3,none⟩ (.bool b)):=by
 have ht:=tn_four w (w0.heap.size + 1) (.int .u32 x) (.int .u64 y) (.slice A' l.length c') (.bool b)
 have hb:=ht.below h.bel h.bel.size (fun b hb=>by rw [hb];exact Nat.le_succ _)
 refine ⟨h.src.tn ht (fun e=>by omega),Rws.below h.uns0 (ht.below (Below.refl w0.heap.size w) h.bel.size (fun b hb=>by rw [hb];exact Nat.le_succ _)) (Nat.le_refl _),(fun e=>by simp [Rq.up] at e),fun _=>⟨A',c',(h.pre hL).sets _ _ _ _ _ _,OwnR.tn ho ht fun g hg e=>?_⟩,hb,Nat.le_trans h.size ht.size⟩
 have:=(OwnR.lt ho g hg).1
 omega
end
def RetOp (w:World) (x y:Int) (l:List Un) (b:Bool) (e:Ending) (w':World):Prop:=∃ A c,e=.returned (.agg #[.int .u32 x,.int .u64 y,.slice A l.length c,.bool b])∧OwnU w' w.heap.size (.slice A l.length c) l∧Below w.heap.size w w'
set_option maxHeartbeats 400000 in
theorem ownOp_any (x y:Int) (A:Option Addr) (n c:Nat) (l:List Un) (b:Bool) (w:World) (h1:Uns w w.heap.size A n c l) (hn:n * 40≤140737488355328) :
  Calls Tryz.prog 185 #[.agg #[.int .u32 x,.int .u64 y,.slice A n c,.bool b]] w (RetOp w x y l b):=by
 obtain ⟨V,hV⟩ : ∃ V,V=(w.alloc (.cells #[.int .u32 x,.int .u64 y,.slice A n c,.bool b] 45)).alloc (.cells #[.int .u32 0,.int .u64 0,.slice none 0 0,.bool false] 45):=⟨_,rfl⟩
 have HS:=Lib.hid (show OwS w x y A n c l b (fun _=>false) V.drew from by
  have hb:Below w.heap.size w V:=by rw [hV];exact below_alloc (below_box _ _) _
  refine ⟨?_,Rws.below h1 (below_drawn hb) (Nat.le_refl _),fun _=>?_,(fun h=>by cases h),below_drawn hb,?_⟩
  ·rw [hV];exact below_old (w:=w.alloc (.cells #[.int .u32 x,.int .u64 y,.slice A n c,.bool b] 45)) (below_box _ _) (heap_new rfl) (by simp)
  ·rw [hV];exact heap_new (by simp)
  ·rw [hV];simp)
 have HV:=Lib.hid hV
 clear hV h1
 go_enter Tryz.func185,Tryz.ntmps185
 go_wp2_with fail
 rw [← HV.out]
 refine Rq.wp_region_inv (OwS w x y A n c l b) (OwR w) (Rq.Wd.at [.is (.pointer (some ⟨w.heap.size,0,none⟩)),.is (.agg #[.int .u32 x,.int .u64 y]),.is (.pointer (some ⟨w.heap.size,2,none⟩)),.is (.slice A n c),.pred (OwP (w.heap.size + 2) l),.is (.pointer (some ⟨w.heap.size,3,none⟩)),.is (.bool b),.pred (OwQ (w.heap.size + 2) x y l b),.any]) (by kernel_rfl) (by kernel_rfl) (Rq.Wd.stays _ _ (fun i q hi=>(by rcases i with _ | _ | _ | _ | _ | _ | _ | _ | _ | i <;> simp at hi <;> (subst hi;first | exact fun k v w1 w2 _ h hr=>OwP.tn h hr (Nat.lt_succ_self _) | exact fun k v w1 w2 _ h hr=>OwQ.tn h hr (Nat.lt_succ_self _))))) (HS.out) ⟨?_,?_,?_,?_,?_,?_,?_,?_,?_,trivial⟩ ?_
 ·intro L a w1 hL hS hb hd
  have e1:=hb 1 (Rq.nw (by decide))
  simp [Act.eval] at e1
  exact Rq.does_pure (Rq.wanted_none rfl) (by simp [execOp,e1,go_sem]) rfl (hS.stay (by decide)) (Tn.refl _ _)
 ·intro L a w1 hL hS hb hd
  have p3:=(hd ⟨0,.data⟩ (by simp) rfl).2 _ _ rfl rfl
  have e3:a.tmps[3]?.getD undef=(.pointer (some ⟨w.heap.size,0,none⟩)):=Rq.slot p3
  exact Rq.does_pure (Rq.wanted_none rfl) (by simp [execOp,e3,hS.src.cells.1,hS.src.cells.2.1,go_sem]) rfl (hS.stay (by decide)) (Tn.refl _ _)
 ·intro L a w1 hL hS hb hd
  have e1:=hb 1 (Rq.nw (by decide))
  simp [Act.eval] at e1
  exact Rq.does_pure (Rq.wanted_none rfl) (by simp [execOp,e1,go_sem]) rfl (hS.stay (by decide)) (Tn.refl _ _)
 ·intro L a w1 hL hS hb hd
  have p5:=(hd ⟨2,.data⟩ (by simp) rfl).2 _ _ rfl rfl
  have e5:a.tmps[5]?.getD undef=(.pointer (some ⟨w.heap.size,2,none⟩)):=Rq.slot p5
  exact Rq.does_pure (Rq.wanted_none rfl) (by simp [execOp,e5,hS.src.cells.2.2.1,go_sem]) rfl (hS.stay (by decide)) (Tn.refl _ _)
 ·intro L a w1 hL hS hb hd
  have p6:=(hd ⟨3,.data⟩ (by simp) rfl).2 _ _ rfl rfl
  have e6:a.tmps[6]?.getD undef=(.slice A n c):=Rq.slot p6
  refine Rq.does_call (f:=229) (args:=#[.slice A n c]) (Rq.wanted_none rfl) (by simp [e6,go_sem]) ?_
  refine (own_big A n c l w1 hS.uns hn).mono ?_;rintro e w3 ⟨A',c',rfl,ho,hb⟩;exact ⟨_,rfl,⟨A',c',rfl,OwnR.lower ho hS.size⟩,hS.next (by decide) hb,Tn.of _ hb⟩
 ·intro L a w1 hL hS hb hd
  have e1:=hb 1 (Rq.nw (by decide))
  simp [Act.eval] at e1
  exact Rq.does_pure (Rq.wanted_none rfl) (by simp [execOp,e1,go_sem]) rfl (hS.stay (by decide)) (Tn.refl _ _)
 ·intro L a w1 hL hS hb hd
  have p8:=(hd ⟨5,.data⟩ (by simp) rfl).2 _ _ rfl rfl
  have e8:a.tmps[8]?.getD undef=(.pointer (some ⟨w.heap.size,3,none⟩)):=Rq.slot p8
  exact Rq.does_pure (Rq.wanted_none rfl) (by simp [execOp,e8,hS.src.cells.2.2.2,go_sem]) rfl (hS.stay (by decide)) (Tn.refl _ _)
 ·intro L a w1 hL hS hb hd
  have p4:=(hd ⟨1,.data⟩ (by simp) rfl).2 _ _ rfl rfl
  have e4:a.tmps[4]?.getD undef=(.agg #[.int .u32 x,.int .u64 y]):=Rq.slot p4
  have p7:=(hd ⟨4,.data⟩ (by simp) rfl).2 _ _ rfl rfl
  have p9:=(hd ⟨6,.data⟩ (by simp) rfl).2 _ _ rfl rfl
  have e9:a.tmps[9]?.getD undef=(.bool b):=Rq.slot p9
  obtain ⟨A',c',e7,ho⟩:=p7;have e8:=Rq.slot e7;exact Rq.does_pure (Rq.wanted_none rfl) (by simp [execOp,e4,e8,e9,go_sem]) ⟨A',c',rfl,ho⟩ (hS.stay (by decide)) (Tn.refl _ _)
 ·intro L a w1 hL hS hb hd
  have e2:=hb 2 (Rq.nw (by decide))
  simp [Act.eval] at e2
  have p10:=(hd ⟨7,.data⟩ (by simp) rfl).2 _ _ rfl rfl
  obtain ⟨A',c',e9,ho⟩:=p10;have e8:=Rq.slot e9;obtain ⟨d0,d1,d2,d3⟩:=(hS.pre hL).cells;have f2:=fun j=>(hS.pre hL).frozen j;exact Rq.does_skip rfl (Rq.wanted_none rfl) (by simp [execOp,e2,e8,go_sem,d0,d1,d2,d3,f2]) trivial (hS.laid hL ho) (tn_four _ _ _ _ _ _)
 ·intro L v w3 hS hall hv
  obtain ⟨A',c',h1,h2⟩:=hS.post (hall 8 (by decide))
  have H1:=Lib.hid h1
  have H2:=Lib.hid h2
  have HB:=Lib.hid hS.bel
  clear hS hall hv h1 h2
  simp only [Rq.putAll]
  simp only [Act.put,List.setIfInBounds_toArray,List.set_cons_succ,List.set_cons_zero]
  go_wp2_with fail
  exact bodyPost_ret (results_op rfl (by rfl) H1.out) rfl ⟨A',c',rfl,OwnR.lower H2.out (by omega),HB.out⟩
end Go.Proofs.YtlgdcelgkiipaaaGreat
