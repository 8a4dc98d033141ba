/-
  Leases in plain words (clients and ticks, a rising list: MkP's words): where a client stands, one laid in its place, who is there, many made; as a map's datum at uint64. Nothing of a program is named. Conditions: those that each states.
  A document (layer 13) in plain words: its text, its past, leases, marks, how often it was touched; each call as a plain function; what stays with every call.
  Lengths and places behind rows, in plain words: rows one by one or as one row, places within the text, in order. Conditions: the length and the row together at most 2^40.
  What layer 9's statements ask, in plain words, ahead of the code: there and back, selective, what stands apart, both in either order. Nothing of a program is named here. Conditions: those that each lemma states.
  A document in plain words: what stays with every call (Dc.Ok), one past (Dc.Hist).
-/
import Derived.Test.YtlgdcelgkiipaaaGreatOc11
import Derived.Test.YtlgdcelgkiipaaaGreatOc07
set_option maxRecDepth 100000
set_option linter.unusedVariables false
namespace Go.Proofs.YtlgdcelgkiipaaaGreat
open Go.RowKit
namespace Pl
theorem getD_mem {L:Mks} {i:Nat} (h:i<L.length):L.getD i default ∈ L:=by
 rw [List.getD_eq_getElem?_getD,List.getElem?_eq_getElem h]
 exact List.getElem_mem _
def layL (x:Int × Int):Mks→Bool→Mks
 | [],d=>if d then [] else [x]
 | y :: r,d=>if y.1=x.1 then layL x r d else if d=false∧x.1<y.1 then x :: y :: layL x r true else y :: layL x r d
theorem lay_done (x:Int × Int):∀ L:Mks,layL x L true=delM L x.1
 | []=>rfl
 | y :: r=>by
  unfold layL delM
  rw [List.filter_cons]
  by_cases e:y.1=x.1
  ·rw [if_pos e,lay_done x r]
   have e2:(!(y.1 == x.1))=false:=by simpa using e
   rw [e2]
   rfl
  ·rw [if_neg e,if_neg (by simp),lay_done x r]
   have e2:(!(y.1 == x.1))=true:=by simpa using e
   rw [e2]
   rfl
theorem lay_put (x:Int × Int):∀ L:Mks,layL x L false=putM L x.1 x.2
 | []=>rfl
 | y :: r=>by
  unfold layL putM delM
  rw [List.filter_cons]
  by_cases e:y.1=x.1
  ·rw [if_pos e,lay_put x r]
   have e2:(!(y.1 == x.1))=false:=by simpa using e
   rw [e2]
   rfl
  ·have e2:(!(y.1 == x.1))=true:=by simpa using e
   rw [if_neg e,e2,if_pos rfl]
   show _=insM (x.1,x.2) (y :: delM r x.1)
   unfold insM
   by_cases h:x.1<y.1
   ·rw [if_pos ⟨rfl,h⟩,if_pos h,lay_done]
   ·rw [if_neg (fun hh=>h hh.2),if_neg h,lay_put x r]
    rfl
def liveM (L:Mks) (x now:Int):Bool:=match getM L x with | some v=>decide (now<v) | none=>false
theorem live_some {L:Mks} {x v:Int} (h:getM L x=some v) (now:Int):liveM L x now=decide (now<v):=by unfold liveM;rw [h]
theorem live_none {L:Mks} {x:Int} (h:getM L x=none) (now:Int):liveM L x now=false:=by unfold liveM;rw [h]
def whichM (live:Bool) (now:Int) (L:Mks):List Int:=(L.filter fun p=>decide (now<p.2) == live).map (·.1)
def thereM (now:Int) (L:Mks):Mks:=L.filter fun p=>decide (now<p.2)
theorem rising_there {L:Mks} (h:Rising L) (now:Int):Rising (thereM now L):=List.Pairwise.filter _ h
def dropsM (L:Mks) (cs:List Int):Mks:=cs.foldl delM L
theorem drops_mem (cs:List Int):∀ (L:Mks) (p:Int × Int),p ∈ dropsM L cs↔p ∈ L∧p.1 ∉ cs:=by
 induction cs with
 | nil=>intro L p;simp [dropsM]
 | cons c r ih =>
  intro L p
  show p ∈ dropsM (delM L c) r↔_
  rw [ih,mem_del,List.mem_cons]
  constructor
  ·rintro ⟨⟨h1,h2⟩,h3⟩;exact ⟨h1,fun h=>h.elim h2 h3⟩
  ·rintro ⟨h1,h2⟩;exact ⟨⟨h1,fun h=>h2 (.inl h)⟩,fun h=>h2 (.inr h)⟩
theorem rising_drops (cs:List Int):∀ {L:Mks},Rising L→Rising (dropsM L cs):=by
 induction cs with
 | nil=>intro L h;exact h
 | cons c r ih=>intro L h;exact ih (rising_del h c)
theorem rising_mem_ext {M N:Mks} (hM:Rising M) (hN:Rising N) (h:∀ p,p ∈ M↔p ∈ N):M=N :=
 mks_ext hM hN fun c=>opt_ext fun v=>by rw [get_iff hM,get_iff hN];exact h (c,v)
theorem drops_which {L:Mks} (h:Rising L) (now:Int):dropsM L (whichM false now L)=thereM now L:=by
 refine rising_mem_ext (rising_drops _ h) (rising_there h now) fun p=>?_
 unfold thereM
 rw [drops_mem,List.mem_filter]
 refine ⟨fun ⟨h1,h2⟩=>⟨h1,?_⟩,fun ⟨h1,h2⟩=>⟨h1,fun h3=>?_⟩⟩
 ·cases hd:decide (now<p.2) with
  | true=>rfl
  | false =>
   refine absurd (List.mem_map.2 ⟨p,List.mem_filter.2 ⟨h1,?_⟩,rfl⟩) h2
   rw [hd]
   rfl
 ·obtain ⟨q,hq,e⟩:=List.mem_map.1 h3
  obtain ⟨g1,g2⟩:=List.mem_filter.1 hq
  have e2:q=p:=by
   have a1:=(get_iff h).2 (show (q.1,q.2) ∈ L from g1)
   have a2:=(get_iff h).2 (show (p.1,p.2) ∈ L from h1)
   rw [e,a2] at a1
   exact Prod.ext e (Option.some.inj a1).symm
  subst e2
  rw [h2] at g2
  cases g2
def tickM (L:Mks) (x now:Int):Int:=match getM L x with | some u=>if now + 64<u then u else now + 64 | none=>now + 64
def setL (L:Mks) (x now:Int):Int × Mks:=if 1099511627776<now then (1,L) else if getM L x=none∧16≤L.length then (7,L) else (0,putM L x (tickM L x now))
theorem setL_late {L:Mks} {x now:Int} (h:1099511627776<now):setL L x now=(1,L):=if_pos h
theorem setL_full {L:Mks} {x now:Int} (h:¬ 1099511627776<now) (h1:getM L x=none) (h2:16≤L.length):setL L x now=(7,L):=by unfold setL;rw [if_neg h,if_pos ⟨h1,h2⟩]
theorem setL_new {L:Mks} {x now:Int} (h:¬ 1099511627776<now) (h1:getM L x=none) (h2:¬ 16≤L.length):setL L x now=(0,putM L x (now + 64)):=by
 unfold setL tickM
 rw [if_neg h,if_neg (fun hh=>h2 hh.2),h1]
theorem setL_old {L:Mks} {x now u:Int} (h:¬ 1099511627776<now) (h1:getM L x=some u):setL L x now=(0,putM L x (if now + 64<u then u else now + 64)):=by
 unfold setL tickM
 rw [if_neg h,if_neg (fun hh=>by rw [h1] at hh;cases hh.1),h1]
def dropL (L:Mks) (x:Int):Int × Mks:=if getM L x=none then (6,L) else (0,delM L x)
def makeM:Mks→Mks→Int × Mks
 | [],M=>(0,M)
 | y :: r,M=>if (getM M y.1).isSome=true∨1099511627840<y.2 then (1,M) else makeM r (putM M y.1 y.2)
theorem len_del_le (M:Mks) (c:Int):(delM M c).length≤M.length:=List.length_filter_le _ _
theorem len_ins (x:Int × Int):∀ M:Mks,(insM x M).length=M.length + 1
 | []=>rfl
 | y :: r=>by
  unfold insM
  split
  ·rfl
  ·rw [List.length_cons,len_ins x r,List.length_cons]
theorem len_put_le (M:Mks) (c v:Int):(putM M c v).length≤M.length + 1:=by
 unfold putM
 rw [len_ins]
 have:=len_del_le M c
 omega
end Pl
section
variable {H:Type}
def entL (p:Int × Int):Lit × DataW H:=(Lit.int .u32 p.1,DataW.lit (Lit.int .u64 p.2))
def datL (M:Pl.Mks):DataW H:=.map (M.map entL)
theorem findL_dat (M:Pl.Mks) (c:Int):(M.map (entL (H:=H))).find? (fun p=>p.1.sameKey (.int .u32 c))=(M.find? (fun p=>p.1 == c)).map entL:=by
 rw [List.find?_map]
 congr 2
 funext p
 exact same_u32 p.1 c
theorem hasL_dat (M:Pl.Mks) (c:Int):Maps.has (datL M:DataW H) (.int .u32 c)=(Pl.getM M c).isSome:=by
 unfold datL Pl.getM
 rw [Maps.has_eq,Option.isSome_map]
 induction M with
 | nil=>rfl
 | cons y r ih =>
  rw [List.map_cons,List.any_cons,ih,List.find?_cons]
  have e:(entL (H:=H) y).1.sameKey (.int .u32 c)=(y.1 == c):=same_u32 y.1 c
  rw [e]
  cases h:(y.1 == c) <;> simp
theorem atL_dat (M:Pl.Mks) (c:Int) (z:DataW H):(datL M).atKey (.int .u32 c) z=((Pl.getM M c).map fun v=>DataW.lit (Lit.int .u64 v)).getD z:=by
 unfold datL DataW.atKey Pl.getM
 simp only
 rw [findL_dat,Option.map_map]
 cases M.find? (fun p=>p.1 == c) <;> rfl
theorem delL_dat (M:Pl.Mks) (c:Int):(datL M:DataW H).del (.int .u32 c)=datL (Pl.delM M c):=by
 unfold datL DataW.del Pl.delM
 simp only
 rw [List.filter_map]
 congr 3
 funext p
 show (!(Lit.int .u32 p.1).sameKey (.int .u32 c))=_
 rw [same_u32]
theorem insL_dat (x:Int × Int):∀ M:Pl.Mks,DataW.insert (entL (H:=H) x) (M.map entL)=(Pl.insM x M).map entL
 | []=>rfl
 | y :: r=>by
  rw [List.map_cons]
  unfold DataW.insert Pl.insM
  have e:(entL (H:=H) x).1.before (entL (H:=H) y).1=decide (x.1<y.1):=before_u32 x.1 y.1
  rw [e,insL_dat x r]
  by_cases h:x.1<y.1
  ·rw [decide_eq_true h,if_pos rfl,if_pos h];rfl
  ·rw [decide_eq_false h,if_neg (by simp),if_neg h];rfl
theorem putL_dat (M:Pl.Mks) (c v:Int):(datL M:DataW H).put (.int .u32 c) (.lit (.int .u64 v))=datL (Pl.putM M c v):=by
 have h:=delL_dat (H:=H) M c
 unfold datL DataW.del at h
 simp only [DataW.map.injEq] at h
 unfold datL DataW.put Pl.putM
 simp only
 rw [h]
 exact congrArg _ (insL_dat (c,v) (Pl.delM M c))
theorem sizeL_dat (M:Pl.Mks):Maps.size (datL M:DataW H)=M.length:=by
 unfold datL
 rw [Maps.size_eq,List.length_map]
end
open Go.RowKit
open Pl (Un)
namespace Pl
structure Dc where
 cs:List Int
 fr:Nat
 n:Int
 P:List Op
 L:Mks
 M:Mks
 t:Nat
structure An where
 e:Int
 rev:Nat
 whole:Bool
 text:List Int
 ops:List Op
 seats:List (Int × Int × Int)
def fails (e:Int):An:=⟨e,0,false,[],[],[]⟩
def rowsO (l:List Op):List (List Un):=l.map (·.l)
def backR (x y:Int) (a:List Un) (rows:List (List Un)):List Un:=cleanL (pastR (invR x y a) rows)
namespace Dc
def zero:Dc:=⟨[],0,0,[],[],[],0⟩
def now (d:Dc):Nat:=d.fr + d.P.length
def long (d:Dc) (rev:Nat):Int:=d.n + total (d.P.take (rev - d.fr))
def later (d:Dc) (rev:Nat):List Op:=d.P.drop (rev - d.fr)
def touched (d:Dc) (t:Int):Dc:={ d with L:=thereM t d.L,M:=dropsM d.M (whichM false t d.L),t:=d.t + 1 }
def renewed (d:Dc) (c t:Int):Dc:={ d with L:=(setL d.L c t).2 }
def call (d:Dc) (t:Int) (f:Dc→Dc × An):Dc × An :=
 if 1099511627776<t then (d,fails 1) else ((f (d.touched t)).1,if (f (d.touched t)).2.e=0 then { (f (d.touched t)).2 with rev:=(f (d.touched t)).1.now } else (f (d.touched t)).2)
def at_ (d:Dc) (c t:Int) (f:Dc→Dc × An):Dc × An :=
 d.call t fun d=>if liveM d.L c t=true then (if (f d).2.e=0 then ((f d).1.renewed c t,(f d).2) else f d) else (d,fails 36)
def tells (d:Dc) (rev:Nat) (whole:Bool):An :=
 if d.now<rev then fails 31 else if whole=true∨rev<d.fr then ⟨0,0,true,d.cs,[],[]⟩ else ⟨0,0,false,[],d.later rev,[]⟩
def open_ (d:Dc) (c:Int) (rev:Nat) (t:Int):Dc × An :=
 d.call t fun d=>if (d.tells rev (rev == 0)).e≠0 then (d,d.tells rev (rev == 0)) else
  if (setL d.L c t).1≠0 then (d,fails (setL d.L c t).1) else
  ({ d with L:=(setL d.L c t).2,M:=if getM d.M c=none then putM d.M c 0 else d.M },d.tells rev (rev == 0))
def leave_ (d:Dc) (c t:Int):Dc × An :=
 d.call t fun d=>if liveM d.L c t=true then ({ d with L:=delM d.L c,M:=delM d.M c },fails 0) else (d,fails 36)
def ripe (d:Dc) (row:List Un):List Un:=fillL (cleanL row) d.cs
def bars (d:Dc) (row:List Un):Int :=
 if (longL (cleanL row) d.cs.length).2≠0 then (longL (cleanL row) d.cs.length).2 else
 if 4096<(leave (cleanL row) d.cs).length∨256≤d.P.length then 35 else if 1099511627776≤d.now then 7 else 0
def newOp (d:Dc) (x y:Int) (row:List Un):Op:=⟨x,y,d.ripe row,false⟩
def behind (d:Dc) (x y:Int) (row:List Un):Dc:={ d with cs:=leave (cleanL row) d.cs,P:=d.P ++ [d.newOp x y row],M:=goM (fun p=>placeR p (d.ripe row)) d.M }
def editRow (d:Dc) (base:Nat) (row:List Un):List Un:=pastR row (rowsO (d.later base))
def editE (d:Dc) (x y:Int) (base:Nat) (row:List Un):Int :=
 if ∃ u ∈ row,¬ Okay u∨u.x≠x∨u.y≠y then 1 else if (place d.fr d.P.length 0 base).2≠0 then (place d.fr d.P.length 0 base).2 else
 if 256<row.length then 35 else if (longL row (d.long base)).2≠0 then (longL row (d.long base)).2 else d.bars (d.editRow base row)
def edit (d:Dc) (x y:Int) (base:Nat) (row:List Un) (t:Int):Dc × An :=
 d.at_ x t fun d=>if d.editE x y base row≠0 then (d,fails (d.editE x y base row)) else
  (d.behind x y (d.editRow base row),⟨0,0,false,[],d.later base ++ [d.newOp x y (d.editRow base row)],[]⟩)
def opAt (d:Dc) (rev:Nat):Op:=d.P.getD (rev - d.fr - 1) default
def undoRow (d:Dc) (x y:Int) (rev:Nat):List Un:=backR x y (d.opAt rev).l (rowsO (d.later rev))
def undoE (d:Dc) (x y:Int) (rev:Nat):Int :=
 if rev=0 then 6 else if (place d.fr d.P.length 1 rev).2≠0 then (place d.fr d.P.length 1 rev).2 else
 if (d.opAt rev).x≠x then 33 else if (d.opAt rev).b=true then 34 else d.bars (d.undoRow x y rev)
def mark (d:Dc) (k:Nat):Dc:={ d with P:=d.P.set k { d.P.getD k default with b:=true } }
def undo (d:Dc) (x y:Int) (rev:Nat) (t:Int):Dc × An :=
 d.at_ x t fun d=>if d.undoE x y rev≠0 then (d,fails (d.undoE x y rev)) else
  ((d.behind x y (d.undoRow x y rev)).mark (rev - d.fr - 1),⟨0,0,false,[],[d.newOp x y (d.undoRow x y rev)],[]⟩)
def gone (d:Dc) (keep:Int):Nat:=d.P.length - keep.toNat
def cut (d:Dc) (k:Nat):Dc:={ d with fr:=d.fr + k,n:=d.n + total (d.P.take k),P:=d.P.drop k }
def snap (d:Dc) (keep t:Int):Dc × An:=d.call t fun d=>(d.cut (d.gone keep),fails 0)
def fetch (d:Dc) (c:Int) (rev:Nat) (most t:Int):Dc × An :=
 d.at_ c t fun d=>if most<0 then (d,fails 1) else if (d.tells rev false).e≠0 then (d,d.tells rev false) else
  (d,{ d.tells rev false with ops:=if most=0 then (d.tells rev false).ops else (d.tells rev false).ops.take most.toNat })
def placed (d:Dc) (rev:Nat) (pos:Int):Int:=(d.later rev).foldl (fun p o=>placeR p o.l) pos
def move (d:Dc) (c:Int) (rev:Nat) (pos t:Int):Dc × An :=
 d.at_ c t fun d=>if (place d.fr d.P.length 0 rev).2≠0 then (d,fails (place d.fr d.P.length 0 rev).2) else
  if pos<0∨d.long rev<pos then (d,fails 30) else ({ d with M:=putM d.M c (d.placed rev pos) },fails 0)
def seats (d:Dc):List (Int × Int × Int):=d.L.map fun p=>(p.1,(getM d.M p.1).getD 0,p.2)
def who (d:Dc) (c t:Int):Dc × An:=d.at_ c t fun d=>(d,{ fails 0 with seats:=(d.renewed c t).seats })
end Dc
end Pl
open Go.RowKit
open Pl (Un)
namespace Pl
theorem place_keeps:∀ (l:List Un) (n x y:Int),0≤x→x≤y→y≤n→n + l.length≤1099511627776→(goL l n).2=0→0≤placeR x l∧placeR x l≤placeR y l∧placeR y l≤(goL l n).1
 | [],n,x,y,h0,h1,h2,_,_=>by
  unfold placeR goL
  exact ⟨h0,h1,h2⟩
 | u :: r,n,x,y,h0,h1,h2,hb,e=>by
  rw [List.length_cons] at hb
  unfold goL at e ⊢
  unfold placeR
  by_cases hf:Fit u n
  ·rw [if_pos hf] at e ⊢
   have hp:u.k=1∨u.k=2→0≤u.p:=fun hk=>by rcases hf.1 with h | h <;> omega
   have f1:=hf.2.1
   have f2:=hf.2.2
   by_cases k1:u.k=1
   ·have hp1:=hp (Or.inl k1)
    have hg:grows u.k=1:=by unfold grows;rw [if_pos k1]
    have k2:¬ u.k=2:=by omega
    have w1:∀ z,0≤z→z≤n→wrap64 (z + 1)=z + 1:=fun z h h'=>by unfold wrap64;omega
    have ex:(if u.k=1∧u.p≤x then wrap64 (x + 1) else if u.k=2∧u.p<x then wrap64 (x - 1) else x)=if u.p≤x then x + 1 else x:=by
     by_cases hx:u.p≤x
     ·rw [if_pos ⟨k1,hx⟩,if_pos hx,w1 x h0 (by omega)]
     ·rw [if_neg (fun h=>hx h.2),if_neg (fun h=>k2 h.1),if_neg hx]
    have ey:(if u.k=1∧u.p≤y then wrap64 (y + 1) else if u.k=2∧u.p<y then wrap64 (y - 1) else y)=if u.p≤y then y + 1 else y:=by
     by_cases hy:u.p≤y
     ·rw [if_pos ⟨k1,hy⟩,if_pos hy,w1 y (by omega) h2]
     ·rw [if_neg (fun h=>hy h.2),if_neg (fun h=>k2 h.1),if_neg hy]
    rw [ex,ey]
    rw [hg] at e ⊢
    exact place_keeps r (n + 1) _ _ (by split <;> omega) (by split <;> split <;> omega) (by split <;> omega) (by omega) e
   ·by_cases k2:u.k=2
    ·have hp2:=hp (Or.inr k2)
     have f22:=f2 k2
     have hg:grows u.k=-1:=by unfold grows;rw [if_neg k1,if_pos k2]
     have w1:∀ z,0≤z→z≤n→wrap64 (z - 1)=z - 1:=fun z h h'=>by unfold wrap64;omega
     have ex:(if u.k=1∧u.p≤x then wrap64 (x + 1) else if u.k=2∧u.p<x then wrap64 (x - 1) else x)=if u.p<x then x - 1 else x:=by
      rw [if_neg (fun h=>k1 h.1)]
      by_cases hx:u.p<x
      ·rw [if_pos ⟨k2,hx⟩,if_pos hx,w1 x h0 (by omega)]
      ·rw [if_neg (fun h=>hx h.2),if_neg hx]
     have ey:(if u.k=1∧u.p≤y then wrap64 (y + 1) else if u.k=2∧u.p<y then wrap64 (y - 1) else y)=if u.p<y then y - 1 else y:=by
      rw [if_neg (fun h=>k1 h.1)]
      by_cases hy:u.p<y
      ·rw [if_pos ⟨k2,hy⟩,if_pos hy,w1 y (by omega) h2]
      ·rw [if_neg (fun h=>hy h.2),if_neg hy]
     rw [ex,ey]
     rw [hg] at e ⊢
     exact place_keeps r (n + -1) _ _ (by split <;> omega) (by split <;> split <;> omega) (by split <;> omega) (by omega) e
    ·have hg:grows u.k=0:=by unfold grows;rw [if_neg k1,if_neg k2]
     rw [if_neg (fun h=>k1 h.1),if_neg (fun h=>k2 h.1),if_neg (fun h=>k1 h.1),if_neg (fun h=>k2 h.1)]
     rw [hg] at e ⊢
     exact place_keeps r (n + 0) _ _ h0 h1 (by omega) (by omega) e
  ·rw [if_neg hf] at e
   exact absurd e (by decide)
theorem placeR_keeps {l:List Un} {n m x y:Int} (h:longL l n=(m,0)) (h0:0≤x) (h1:x≤y) (h2:y≤n) (hb:n + l.length≤1099511627776):0≤placeR x l∧placeR x l≤placeR y l∧placeR y l≤m:=by
 unfold longL at h
 by_cases hc:0≤n∧∀ u ∈ l,Okay u
 ·rw [if_pos hc] at h
  have:=place_keeps l n x y h0 h1 h2 hb (by rw [h])
  rw [h] at this
  exact this
 ·rw [if_neg hc] at h
  cases h
end Pl
open Go.RowKit
open Pl (Un)
namespace Pl
theorem OnlyR.mono {P Q:Int→Prop} (hPQ:∀ c,P c→Q c):∀ {r:List Un} {cs:List Int},OnlyR P r cs→OnlyR Q r cs
 | [],_,_=>trivial
 | _ :: _,_,h=>⟨⟨fun hk=>hPQ _ (h.1.1 hk),fun hk c hc=>hPQ _ (h.1.2 hk c hc)⟩,OnlyR.mono hPQ h.2⟩
def R2 (c:Int):Prop:=2000≤c∧c<3000
instance:DecidablePred R2:=fun c=>by unfold R2;infer_instance
def R3 (c:Int):Prop:=3000≤c
instance:DecidablePred R3:=fun c=>by unfold R3;infer_instance
theorem clean_mem {r:List Un} {u:Un} (h:u ∈ cleanL r):u ∈ r:=(List.mem_filter.1 h).1
end Pl
open Go.RowKit
open Pl (Un)
namespace Pl
theorem fit_of_go:∀ (l:List Un) (cs:List Int),(goL l cs.length).2=0→FitR l cs
 | [],_,_=>trivial
 | u :: r,cs,h=>by
  unfold goL at h
  by_cases hf:Fit u cs.length
  ·rw [if_pos hf,← len_behind hf] at h
   exact ⟨hf,fit_of_go r _ h⟩
  ·rw [if_neg hf] at h
   cases h
theorem fit_of_long {l:List Un} {cs:List Int} (h:(longL l cs.length).2=0):FitR l cs:=by
 unfold longL at h
 by_cases hk:0≤(cs.length:Int)∧∀ u ∈ l,Okay u
 ·rw [if_pos hk] at h
  exact fit_of_go l cs h
 ·rw [if_neg hk] at h
  cases h
theorem okayR_of_fit:∀ {l:List Un} {cs:List Int},FitR l cs→∀ u ∈ l,Okay u
 | [],_,_,u,hu=>by cases hu
 | v :: r,cs,h,u,hu=>by
  rcases List.mem_cons.1 hu with rfl | hu
  ·exact h.1.1
  ·exact okayR_of_fit h.2 u hu
theorem long_of_fit {l:List Un} {cs:List Int} (h:FitR l cs):longL l cs.length=(((leave l cs).length:Int),0):=by
 unfold longL
 rw [if_pos ⟨by omega,okayR_of_fit h⟩]
 exact goL_fit l cs h
theorem len_leave {l:List Un} {cs:List Int} (h:FitR l cs):((leave l cs).length:Int)=cs.length + growsL l:=by
 have e:=long_of_fit h
 have:=(longL_ok (l:=l) (n:=cs.length) (by rw [e])).1
 rw [e] at this
 exact this
theorem both_ids (aas bs:List Un):∀ u ∈ (bothR aas bs).1,∃ v ∈ aas,u.x=v.x∧u.y=v.y:=by
 induction aas generalizing bs with
 | nil=>intro u hu;cases hu
 | cons a r ih =>
  intro u hu
  rcases List.mem_cons.1 hu with rfl | hu
  ·exact ⟨a,List.mem_cons_self ..,thru_id a bs⟩
  ·obtain ⟨v,hv,h⟩:=ih _ u hu
   exact ⟨v,List.mem_cons_of_mem _ hv,h⟩
theorem past_ids:∀ (rows:List (List Un)) (a:List Un),∀ u ∈ pastR a rows,∃ v ∈ a,u.x=v.x∧u.y=v.y
 | [],a,u,hu=>⟨u,hu,rfl,rfl⟩
 | b :: r,a,u,hu=>by
  obtain ⟨v,hv,h1,h2⟩:=past_ids r _ u hu
  obtain ⟨z,hz,h3,h4⟩:=both_ids a b v hv
  exact ⟨z,hz,h1.trans h3,h2.trans h4⟩
theorem past_len:∀ (rows:List (List Un)) (a:List Un),(pastR a rows).length=a.length
 | [],_=>rfl
 | b :: r,a=>(past_len r _).trans (len_both a b).1
theorem clean_le (l:List Un):(cleanL l).length≤l.length:=List.length_filter_le _ _
theorem clean_k {l:List Un} {u:Un} (h:u ∈ cleanL l):u.k≠0:=by simpa using (List.mem_filter.1 h).2
theorem back_len (x y:Int) (a:List Un) (rows:List (List Un)):(backR x y a rows).length≤a.length:=by
 refine Nat.le_trans (clean_le _) ?_
 rw [past_len,inv_len]
 exact Nat.le_refl _
theorem back_ids (x y:Int) (a:List Un) (rows:List (List Un)):∀ u ∈ backR x y a rows,u.x=x∧u.y=y:=by
 intro u hu
 obtain ⟨v,hv,h1,h2⟩:=past_ids rows _ u (clean_mem hu)
 have:=inv_ids x y a v hv
 exact ⟨h1.trans this.1,h2.trans this.2⟩
theorem fill_mem:∀ {r:List Un} {cs:List Int} {u:Un},u ∈ fillL r cs→∃ v ∈ r,u.k=v.k∧u.p=v.p∧u.x=v.x∧u.y=v.y
 | [],_,_,h=>by cases h
 | v :: r,cs,u,h=>by
  rcases List.mem_cons.1 h with rfl | h
  ·exact ⟨v,List.mem_cons_self ..,fillU_k v cs⟩
  ·obtain ⟨z,hz,hh⟩:=fill_mem h
   exact ⟨z,List.mem_cons_of_mem _ hz,hh⟩
theorem fill_grows:∀ (r:List Un) (cs:List Int),growsL (fillL r cs)=growsL r
 | [],_=>rfl
 | u :: r,cs=>by
  have h:=fill_grows r (behind u cs)
  have hk:=(fillU_k u cs).1
  simp only [fillL,growsL,List.map_cons,List.sum_cons,hk] at h ⊢
  rw [h]
theorem place_zero {fr len least rev:Nat}:(place fr len least rev).2=0↔fr + least≤rev∧rev≤fr + len:=by
 unfold place
 split
 ·simp;omega
 ·split
  ·simp;omega
  ·simp;omega
namespace Dc
theorem bars_zero {d:Dc} {row:List Un} (h:d.bars row=0):FitR (cleanL row) d.cs∧(leave (cleanL row) d.cs).length≤4096∧d.P.length<256∧d.now<1099511627776:=by
 unfold bars at h
 split at h
 ·rename_i h1;exact absurd h h1
 ·rename_i h1
  split at h
  ·cases h
  ·rename_i h2
   split at h
   ·cases h
   ·rename_i h3
    exact ⟨fit_of_long (Decidable.not_not.1 h1),by omega,by omega,by omega⟩
theorem now_behind (d:Dc) (x y:Int) (row:List Un):(d.behind x y row).now=d.now + 1:=by
 show d.fr + (d.P ++ [_]).length=_
 rw [List.length_append]
 rfl
structure Core (d d':Dc):Prop where
 cs:d'.cs=d.cs
 fr:d'.fr=d.fr
 n:d'.n=d.n
 P:d'.P=d.P
theorem Core.rfl' (d:Dc):Core d d:=⟨rfl,rfl,rfl,rfl⟩
theorem Core.trans {a b c:Dc} (h:Core a b) (k:Core b c):Core a c:=⟨k.cs.trans h.cs,k.fr.trans h.fr,k.n.trans h.n,k.P.trans h.P⟩
structure OkP (d:Dc):Prop where
 len:(d.cs.length:Int)=d.n + total d.P
 may:∀ c ∈ d.cs,May c
 cnt:d.P.length≤256
 rev:d.now≤1099511627776
 top:∀ i,i≤d.P.length→0≤d.n + total (d.P.take i)∧d.n + total (d.P.take i)≤4096
 row:∀ o ∈ d.P,o.l.length≤256∧∀ u ∈ o.l,Okay u∧u.k≠0∧u.x=o.x∧u.y=o.y
 fits:∀ i,i<d.P.length→(longL (d.P.getD i default).l (d.n + total (d.P.take i))).2=0
theorem OkP.core {d d':Dc} (h:OkP d) (c:Core d d'):OkP d':=by
 obtain ⟨h1,h2,h3,h4,h5,h6,h7⟩:=h
 unfold now at h4
 exact ⟨by rw [c.cs,c.n,c.P];exact h1,by rw [c.cs];exact h2,by rw [c.P];exact h3,by unfold now;rw [c.fr,c.P];exact h4,by rw [c.n,c.P];exact h5,by rw [c.P];exact h6,by rw [c.n,c.P];exact h7⟩
theorem OkP.lt4096 {d:Dc} (h:OkP d):d.cs.length≤4096:=by
 have:=(h.top d.P.length (Nat.le_refl _)).2
 rw [List.take_length] at this
 have:=h.len
 omega
theorem ripe_all {d:Dc} (h:OkP d) {row:List Un} (hb:d.bars row=0) :
  FitR (d.ripe row) d.cs∧Filled (d.ripe row) d.cs∧leave (d.ripe row) d.cs=leave (cleanL row) d.cs∧growsL (d.ripe row)=growsL (cleanL row)∧(d.ripe row).length≤row.length :=
 have hf:=(bars_zero hb).1
 have:=fill_all hf h.may
 ⟨this.1,this.2.1,this.2.2,fill_grows _ _,by show (fillL _ _).length≤_;rw [fill_len];exact clean_le _⟩
theorem may_leave {r:List Un} {cs:List Int} (hf:FitR r cs) (hm:∀ c ∈ cs,May c):∀ c ∈ leave r cs,May c:=by
 refine all_leave (Q:=May) hm fun u hu hk=>?_
 have ho:=okayR_of_fit hf u hu
 unfold Okay at ho
 rcases ho with ho | ho
 ·omega
 ·exact ho.2.2
theorem OkP.behind {d:Dc} (h:OkP d) {x y:Int} {row:List Un} (hb:d.bars row=0) (hl:row.length≤256) (hi:∀ u ∈ row,u.x=x∧u.y=y):OkP (d.behind x y row):=by
 obtain ⟨hf,h4,hc,hr⟩:=bars_zero hb
 obtain ⟨rf,rF,re,rg,rl⟩:=ripe_all h hb
 have hlen:=len_leave hf
 have htot:total (d.P ++ [d.newOp x y row])=total d.P + growsL (cleanL row):=by rw [total_append,total_one];show _ + growsL (d.ripe row)=_;rw [rg]
 have h0:=h.len
 refine ⟨?_,may_leave hf h.may,?_,?_,?_,?_,?_⟩
 ·show ((leave (cleanL row) d.cs).length:Int)=d.n + total (d.P ++ [d.newOp x y row])
  omega
 ·show (d.P ++ [_]).length≤256
  rw [List.length_append]
  show d.P.length + 1≤256
  omega
 ·rw [now_behind];omega
 ·intro i hi'
  show 0≤d.n + total ((d.P ++ [d.newOp x y row]).take i)∧d.n + total ((d.P ++ [d.newOp x y row]).take i)≤4096
  have hi2:i≤d.P.length + 1:=by
   have:i≤(d.P ++ [d.newOp x y row]).length:=hi'
   rw [List.length_append] at this
   exact this
  by_cases he:i≤d.P.length
  ·rw [List.take_append_of_le_length he]
   exact h.top i he
  ·rw [List.take_of_length_le (by rw [List.length_append];show d.P.length + 1≤i;omega),htot]
   omega
 ·intro o ho
  rcases List.mem_append.1 (show o ∈ d.P ++ [d.newOp x y row] from ho) with ho | ho
  ·exact h.row o ho
  ·rcases List.mem_singleton.1 ho with rfl
   refine ⟨Nat.le_trans rl hl,fun u hu=>?_⟩
   have hok:=okayR_of_fit rf u hu
   obtain ⟨v,hv,hk,_,hx,hy⟩:=fill_mem hu
   have hvr:=hi v (clean_mem hv)
   exact ⟨hok,by rw [hk];exact clean_k hv,hx.trans hvr.1,hy.trans hvr.2⟩
 ·intro i hi
  have hi2:i<d.P.length + 1:=by
   have:i<(d.P ++ [d.newOp x y row]).length:=hi
   rw [List.length_append] at this
   exact this
  show (longL ((d.P ++ [d.newOp x y row]).getD i default).l (d.n + total ((d.P ++ [d.newOp x y row]).take i))).2=0
  rw [List.take_append_of_le_length (by omega)]
  by_cases he:i<d.P.length
  ·have:=h.fits i he
   rw [List.getD_eq_getElem?_getD,List.getElem?_append_left he,← List.getD_eq_getElem?_getD]
   exact this
  ·obtain rfl:i=d.P.length:=by omega
   rw [List.getD_eq_getElem?_getD,List.getElem?_append_right (Nat.le_refl _),Nat.sub_self,List.take_length,← h0]
   show (longL (d.ripe row) d.cs.length).2=0
   rw [long_of_fit rf]
theorem OkP.cut {d:Dc} (h:OkP d) {k:Nat} (hk:k≤d.P.length):OkP (d.cut k):=by
 have ht:=total_drop d.P k
 refine ⟨?_,h.may,?_,?_,?_,fun o ho=>h.row o (List.mem_of_mem_drop ho),?_⟩
 ·show (d.cs.length:Int)=d.n + total (d.P.take k) + total (d.P.drop k)
  have:=total_append (d.P.take k) (d.P.drop k)
  rw [List.take_append_drop] at this
  have:=h.len
  omega
 ·show (d.P.drop k).length≤256
  rw [List.length_drop]
  have:=h.cnt
  omega
 ·show d.fr + k + (d.P.drop k).length≤_
  rw [List.length_drop]
  have:=h.rev
  unfold now at this
  omega
 ·intro i hi
  have hi2:i≤(d.P.drop k).length:=hi
  rw [List.length_drop] at hi2
  show 0≤d.n + total (d.P.take k) + total ((d.P.drop k).take i)∧d.n + total (d.P.take k) + total ((d.P.drop k).take i)≤4096
  have:=ht i
  have:=h.top (k + i) (by omega)
  omega
 ·intro i hi
  have hi2:i<(d.P.drop k).length:=hi
  rw [List.length_drop] at hi2
  show (longL ((d.P.drop k).getD i default).l (d.n + total (d.P.take k) + total ((d.P.drop k).take i))).2=0
  have:=h.fits (k + i) (by omega)
  rw [Int.add_assoc,ht i,List.getD_eq_getElem?_getD,List.getElem?_drop,← List.getD_eq_getElem?_getD]
  exact this
theorem total_set_take (P:List Op) (k:Nat) (b:Bool) (i:Nat) (hi:i≤P.length):total ((P.set k { P.getD k default with b:=b }).take i)=total (P.take i):=by
 have h1:=lens_at 0 (P.set k { P.getD k default with b:=b }) (i:=i) (by rw [List.length_set];exact hi)
 rw [lens_set,lens_at 0 P hi] at h1
 omega
theorem set_l (P:List Op) (k:Nat) (b:Bool) (i:Nat):((P.set k { P.getD k default with b:=b }).getD i default).l=(P.getD i default).l:=by
 by_cases hk:k<P.length
 ·by_cases he:i=k
  ·subst he
   rw [List.getD_eq_getElem?_getD,List.getElem?_set_self hk]
   rfl
  ·rw [List.getD_eq_getElem?_getD,List.getElem?_set_ne (fun h=>he h.symm),← List.getD_eq_getElem?_getD]
 ·rw [List.set_eq_of_length_le (by omega)]
theorem OkP.mark {d:Dc} (h:OkP d) (k:Nat):OkP (d.mark k):=by
 refine ⟨?_,h.may,?_,?_,?_,?_,?_⟩
 ·show (d.cs.length:Int)=d.n + total (d.P.set k { d.P.getD k default with b:=true })
  rw [total_set]
  exact h.len
 ·show (d.P.set k _).length≤256
  rw [List.length_set]
  exact h.cnt
 ·show d.fr + (d.P.set k _).length≤_
  rw [List.length_set]
  exact h.rev
 ·intro i hi
  have hi2:i≤(d.P.set k { d.P.getD k default with b:=true }).length:=hi
  rw [List.length_set] at hi2
  show 0≤d.n + total ((d.P.set k { d.P.getD k default with b:=true }).take i)∧d.n + total ((d.P.set k { d.P.getD k default with b:=true }).take i)≤4096
  rw [total_set_take _ _ _ _ hi2]
  exact h.top i hi2
 ·intro o ho
  rcases List.mem_or_eq_of_mem_set (show o ∈ d.P.set k { d.P.getD k default with b:=true } from ho) with ho | rfl
  ·exact h.row o ho
  ·by_cases hk:k<d.P.length
   ·exact h.row (d.P.getD k default) (by rw [List.getD_eq_getElem?_getD,List.getElem?_eq_getElem hk];exact List.getElem_mem hk)
   ·rw [List.getD_eq_getElem?_getD,List.getElem?_eq_none (by omega)]
    exact ⟨by decide,fun u hu=>by cases hu⟩
 ·intro i hi
  have hi2:i<(d.P.set k { d.P.getD k default with b:=true }).length:=hi
  rw [List.length_set] at hi2
  show (longL ((d.P.set k { d.P.getD k default with b:=true }).getD i default).l (d.n + total ((d.P.set k { d.P.getD k default with b:=true }).take i))).2=0
  rw [set_l,total_set_take _ _ _ _ (by omega)]
  exact h.fits i hi2
end Dc
end Pl
end Go.Proofs.YtlgdcelgkiipaaaGreat
