/-
  A past in memory (its block, its operations, its lengths), none, and one that New did not make; Past.none, Len, From, Now, New. Conditions: those that each states.
  past.New; past.Past's places and the closure that it gives; Length. Conditions: those that each states.
  What takes a row back, in plain words, ahead of the code of layer 9: which code points a row touches (and that this stays when it is carried over another row), a row filled, its inverse. Nothing of a program is named here. Conditions: those that each lemma states.
  Places by clients in plain words (a rising list), and as a map's datum; a map from clients to places in memory. Nothing of a program is named: the types' numbers are left open. Conditions: those that each states.
  What a range over a map of places has collected, in whatever order; the same, sorted; the map's laws at clients and places. Nothing of a program is named. Conditions: those that each states.
-/
import Derived.Test.YtlgdcelgkiipaaaGreatOc10
import Derived.Test.YtlgdcelgkiipaaaGreatOc09
import Derived.Test.YtlgdcelgkiipaaaGreatOc00
import Derived.BigQuiet
import Derived.Maps.OwnSet
import Derived.Maps.OwnOps
import Derived.Maps.Ext
import Derived.Maps.RangeWalk
set_option maxRecDepth 100000
set_option linter.unusedVariables false
namespace Go.Proofs.YtlgdcelgkiipaaaGreat
open Go.RowKit
open Pl (Un)
namespace Pl
def lens (N:Int) (P:List Op):List Int:=(List.range (P.length + 1)).map fun i=>N + total (P.take i)
theorem len_lens (N:Int) (P:List Op):(lens N P).length=P.length + 1:=by simp [lens]
theorem lens_at (N:Int) (P:List Op) {i:Nat} (h:i≤P.length):(lens N P).getD i default=N + total (P.take i):=by
 unfold lens
 rw [List.getD_eq_getElem?_getD,List.getElem?_map,List.getElem?_range (by omega)]
 rfl
theorem lens_snoc (N:Int) (P:List Op) (o:Op):lens N (P ++ [o])=lens N P ++ [N + total (P ++ [o])]:=by
 unfold lens
 rw [List.length_append,List.length_singleton,List.range_succ,List.map_append,List.map_singleton]
 congr 1
 ·refine List.map_congr_left fun i hi=>?_
  rw [List.mem_range] at hi
  rw [List.take_append_of_le_length (by omega)]
 ·rw [List.take_of_length_le (by simp)]
theorem lens_get (N:Int) (P:List Op) (i:Nat) (h:i<(lens N P).length):(lens N P)[i]=N + total (P.take i):=by
 simp [lens]
theorem lens_drop (N:Int) (P:List Op) (k:Nat) (h:k≤P.length):(lens N P).drop k=lens (N + total (P.take k)) (P.drop k):=by
 refine List.ext_getElem (by simp only [List.length_drop,len_lens];omega) fun i h1 h2=>?_
 rw [List.getElem_drop,lens_get,lens_get,← total_drop]
 omega
theorem lens_nil (N:Int):lens N []=[N]:=by simp [lens,total]
def Small (P:List Op):Prop:=∀ o ∈ P,o.l.length * 40≤140737488355328
structure Fine (fr:Nat) (P:List Op):Prop where
 cnt:P.length≤256
 rev:fr + P.length≤1099511627776
 small:Small P
theorem Small.drop {P:List Op} (h:Small P) (k:Nat):Small (P.drop k):=fun o ho=>h o (List.mem_of_mem_drop ho)
theorem Small.take {P:List Op} (h:Small P) (k:Nat):Small (P.take k):=fun o ho=>h o (List.mem_of_mem_take ho)
theorem Small.snoc {P:List Op} (h:Small P) {o:Op} (ho:o.l.length * 40≤140737488355328):Small (P ++ [o]):=fun x hx=>by
 rcases List.mem_append.1 hx with hx | hx
 ·exact h x hx
 ·rw [List.mem_singleton.1 hx];exact ho
theorem Small.set {P:List Op} (h:Small P) (k:Nat) (b:Bool):Small (P.set k { P.getD k default with b:=b }):=fun x hx=>by
 rcases List.mem_or_eq_of_mem_set hx with hm | rfl
 ·exact h x hm
 ·by_cases hk:k<P.length
  ·exact h (P.getD k default) (by rw [List.getD_eq_getElem?_getD,List.getElem?_eq_getElem hk];exact List.getElem_mem _)
  ·rw [List.getD_eq_getElem?_getD,List.getElem?_eq_none (by omega)];exact Nat.zero_le _
theorem total_set {P:List Op} (k:Nat) (b:Bool):total (P.set k { P.getD k default with b:=b })=total P:=by
 have:(P.set k { P.getD k default with b:=b }).map (fun o=>growsL o.l)=P.map (fun o=>growsL o.l):=by
  refine List.ext_getElem (by simp) fun i h1 h2=>?_
  simp only [List.getElem_map,List.getElem_set]
  split
  ·rename_i h
   subst h
   simp only [List.length_map] at h2
   rw [List.getD_eq_getElem?_getD,List.getElem?_eq_getElem h2]
   rfl
  ·rfl
 unfold total
 rw [this]
theorem lens_set (N:Int) (P:List Op) (k:Nat) (b:Bool):lens N (P.set k { P.getD k default with b:=b })=lens N P:=by
 unfold lens
 rw [List.length_set]
 refine List.map_congr_left fun i hi=>?_
 rw [List.take_set]
 by_cases h:k<i
 ·have e:P.getD k default=(P.take i).getD k default:=by rw [List.getD_eq_getElem?_getD,List.getD_eq_getElem?_getD,List.getElem?_take,if_pos h]
  rw [e,total_set]
 ·rw [List.set_eq_of_length_le (by rw [List.length_take];omega)]
end Pl
theorem Rws.int_at {w:World} {B:Nat} {A:Option Addr} {n c:Nat} {l:List Int} (h:Rws encI w B A n c l) {i:Nat} (hi:i<n) :
  ∃ g o,A=some ⟨g,o,none⟩∧g<B∧∀ i,i<n→w.cell? ⟨g,o + i,none⟩=some (.int .i64 (l.getD i default)):=by
 obtain ⟨g,o,e,hg,hc⟩:=Rws.at_ encI_len h hi
 refine ⟨g,o,e,hg,fun i hi=>?_⟩
 have:=hc i hi 0 _ (by decide) rfl
 rwa [Nat.mul_one,Nat.add_zero] at this
structure PastW (w:World) (p:Nat) (F:Nat→Prop) (fr:Nat) (N:Int) (P:List Pl.Op) (A:Option Addr) (n c:Nat) (B:Option Addr) (m d:Nat) (L:List OpV):Prop where
 blk:w.heap[p]?=some (.cells #[.int .u64 (fr:Int),.slice A n c,.slice B m d] 166 (0,0))
 ops:OpsF w F A n c L
 eq:L.map OpV.op=P
 len:Rws encI w w.heap.size B m d (Pl.lens N P)
 inB:In F B m
 no:¬ F p
 fine:Pl.Fine fr P
def PastAt (w:World) (p:Nat) (F:Nat→Prop) (fr:Nat) (N:Int) (P:List Pl.Op):Prop:=∃ A n c B m d L,PastW w p F fr N P A n c B m d L
section
variable {w w':World} {p:Nat} {F G T:Nat→Prop} {fr:Nat} {N:Int} {P:List Pl.Op} {A:Option Addr} {n c:Nat} {B:Option Addr} {m d:Nat} {L:List OpV}
theorem PastW.lt (h:PastW w p F fr N P A n c B m d L):p<w.heap.size:=lt_of_block h.blk
theorem PastW.tn (h:PastW w p F fr N P A n c B m d L) (ht:Tn T w w') (hd:∀ b,F b→¬ T b) (hp:¬ T p):PastW w' p F fr N P A n c B m d L :=
 ⟨ht.old h.blk hp,h.ops.tn ht hd,h.eq,Rws.tn h.len ht (h.inB.apart hd),h.inB,h.no,h.fine⟩
theorem PastW.then_ (h:PastW w p F fr N P A n c B m d L) (hb:Below w.heap.size w w'):PastW w' p F fr N P A n c B m d L:=h.tn (Tn.of (fun _=>False) hb) (fun _ _ h=>h) (fun h=>h)
theorem PastW.more (h:PastW w p F fr N P A n c B m d L) (hg:∀ b,F b→G b) (hp:¬ G p):PastW w p G fr N P A n c B m d L:=⟨h.blk,h.ops.more hg,h.eq,h.len,h.inB.more hg,hp,h.fine⟩
theorem PastW.n_len (h:PastW w p F fr N P A n c B m d L):n=P.length:=by rw [← h.eq,List.length_map,h.ops.1.len]
theorem PastW.m_len (h:PastW w p F fr N P A n c B m d L):m=P.length + 1:=by rw [← h.len.len,Pl.len_lens]
theorem PastW.len_L (h:PastW w p F fr N P A n c B m d L):L.length=P.length:=by rw [← h.eq,List.length_map]
theorem PastW.b_some (h:PastW w p F fr N P A n c B m d L):B.isNone=false:=by
 have h1:=h.len.nil_
 have h2:=h.len.le
 have h3:=h.m_len
 cases B with
 | none=>have:=h1 rfl;omega
 | some a=>rfl
theorem PastW.cells (h:PastW w p F fr N P A n c B m d L):w.cell? ⟨p,0,none⟩=some (.int .u64 (fr:Int))∧w.cell? ⟨p,1,none⟩=some (.slice A n c)∧w.cell? ⟨p,2,none⟩=some (.slice B m d) :=
 ⟨cell0 (r:=[.slice A n c,.slice B m d]) h.blk,cell1 (r:=[.slice B m d]) h.blk,cell2 (r:=[]) h.blk⟩
theorem PastW.frozen (h:PastW w p F fr N P A n c B m d L) (j:Nat):w.frozen? ⟨p,j,none⟩=false:=frozen_of_row w p j _ _ h.blk
theorem PastW.getD_ (h:PastW w p F fr N P A n c B m d L) {i:Nat} (hi:i<P.length):(L.getD i default).op=P.getD i default:=by
 rw [← h.eq,List.getD_eq_getElem?_getD,List.getD_eq_getElem?_getD,List.getElem?_map,List.getElem?_eq_getElem (by rw [h.len_L];exact hi)]
 rfl
theorem PastAt.tn (h:PastAt w p F fr N P) (ht:Tn T w w') (hd:∀ b,F b→¬ T b) (hp:¬ T p):PastAt w' p F fr N P:=by
 obtain ⟨A,n,c,B,m,d,L,h⟩:=h
 exact ⟨A,n,c,B,m,d,L,h.tn ht hd hp⟩
theorem PastAt.then_ (h:PastAt w p F fr N P) (hb:Below w.heap.size w w'):PastAt w' p F fr N P:=h.tn (Tn.of (fun _=>False) hb) (fun _ _ h=>h) (fun h=>h)
theorem PastAt.more (h:PastAt w p F fr N P) (hg:∀ b,F b→G b) (hp:¬ G p):PastAt w p G fr N P:=by
 obtain ⟨A,n,c,B,m,d,L,h⟩:=h
 exact ⟨A,n,c,B,m,d,L,h.more hg hp⟩
theorem PastAt.lt (h:PastAt w p F fr N P):p<w.heap.size:=by
 obtain ⟨A,n,c,B,m,d,L,h⟩:=h
 exact h.lt
theorem PastAt.fine (h:PastAt w p F fr N P):Pl.Fine fr P:=by
 obtain ⟨A,n,c,B,m,d,L,h⟩:=h
 exact h.fine
theorem PastAt.no (h:PastAt w p F fr N P):¬ F p:=by
 obtain ⟨A,n,c,B,m,d,L,h⟩:=h
 exact h.no
theorem PastAt.old (h:PastAt w p F fr N P):PastAt w p (fun b=>F b∧b<w.heap.size) fr N P:=by
 obtain ⟨A,n,c,B,m,d,L,h⟩:=h
 refine ⟨A,n,c,B,m,d,L,h.blk,⟨h.ops.1,fun h0 ad e=>⟨h.ops.2.1 h0 ad e,Rws.in_ h.ops.1 h0 ad e⟩,fun o ho=>⟨(h.ops.2.2 o ho).1,fun h0 ad e=>⟨(h.ops.2.2 o ho).2 h0 ad e,Rws.in_ (h.ops.2.2 o ho).1 h0 ad e⟩⟩⟩,h.eq,h.len,fun h0 ad e=>⟨h.inB h0 ad e,Rws.in_ h.len h0 ad e⟩,fun e=>h.no e.1,h.fine⟩
end
def NonAt (w:World) (v:Value):Prop:=v=.pointer none∨∃ p,v=.pointer (some ⟨p,0,none⟩)∧w.heap[p]?=some (.cells #[.int .u64 0,.slice none 0 0,.slice none 0 0] 166 (0,0))
theorem NonAt.then_ {w w':World} {v:Value} (h:NonAt w v) (hb:Below w.heap.size w w'):NonAt w' v:=by
 rcases h with h | ⟨p,h,hp⟩
 ·exact .inl h
 ·exact .inr ⟨p,h,below_old hb hp (lt_of_block hp)⟩
set_option maxHeartbeats 400000 in
theorem none_past {w:World} {p:Nat} {F:Nat→Prop} {fr:Nat} {N:Int} {P:List Pl.Op} (h:PastAt w p F fr N P) :
  Calls Tryz.prog 135 #[.pointer (some ⟨p,0,none⟩)] w fun e w'=>e=.returned (.bool false)∧w'=w:=by
 obtain ⟨A,n,c,B,m,d,L,h⟩:=h
 obtain ⟨c0,c1,c2⟩:=h.cells
 have q:=eql_nilI B m d
 rw [h.b_some] at q
 clear h
 go_enter Tryz.func135,Tryz.ntmps135
 go_wp2_with fail
 go_ret
 exact ⟨rfl,rfl⟩
set_option maxHeartbeats 400000 in
theorem len_past {w:World} {p:Nat} {F:Nat→Prop} {fr:Nat} {N:Int} {P:List Pl.Op} (h:PastAt w p F fr N P) :
  Calls Tryz.prog 154 #[.pointer (some ⟨p,0,none⟩)] w fun e w'=>e=.returned (.int .i64 (P.length:Int))∧w'=w:=by
 have HN:=Lib.hid (none_past h)
 obtain ⟨A,n,c,B,m,d,L,h⟩:=h
 obtain ⟨c0,c1,c2⟩:=h.cells
 have HL:=Lib.hid h.n_len
 clear h
 go_enter Tryz.func154,Tryz.ntmps154
 go_wp2_with fail
 refine HN.out.mono ?_
 rintro e w' ⟨rfl,rfl⟩
 go_wp2_with fail
 go_ret
 exact ⟨by rw [HL.out];rfl,rfl⟩
set_option maxHeartbeats 400000 in
theorem from_past {w:World} {p:Nat} {F:Nat→Prop} {fr:Nat} {N:Int} {P:List Pl.Op} (h:PastAt w p F fr N P) :
  Calls Tryz.prog 97 #[.pointer (some ⟨p,0,none⟩)] w fun e w'=>e=.returned (.int .u64 (fr:Int))∧w'=w:=by
 have HN:=Lib.hid (none_past h)
 obtain ⟨A,n,c,B,m,d,L,h⟩:=h
 obtain ⟨c0,c1,c2⟩:=h.cells
 clear h
 go_enter Tryz.func97,Tryz.ntmps97
 go_wp2_with fail
 refine HN.out.mono ?_
 rintro e w' ⟨rfl,rfl⟩
 go_wp2_with fail
 go_ret
 exact ⟨rfl,rfl⟩
theorem wrap_u64 {a:Int} (h1:0≤a) (h2:a≤18446744073709551615):IntKind.u64.wrap a=a:=by rw [IntKind.wrap_u64];omega
set_option maxHeartbeats 400000 in
theorem now_past {w:World} {p:Nat} {F:Nat→Prop} {fr:Nat} {N:Int} {P:List Pl.Op} (h:PastAt w p F fr N P) :
  Calls Tryz.prog 78 #[.pointer (some ⟨p,0,none⟩)] w fun e w'=>e=.returned (.int .u64 ((fr + P.length:Nat):Int))∧w'=w:=by
 have HF:=Lib.hid (from_past h)
 have HL:=Lib.hid (len_past h)
 obtain ⟨k,hk⟩ : ∃ k,k=P.length:=⟨_,rfl⟩
 have hr:=h.fine.rev
 rw [← hk] at HL hr ⊢
 clear h hk
 have HR:=Lib.hid (show Value.int .u64 ((fr:Int) + (k:Int))=.int .u64 ((fr + k:Nat):Int) by rw [Int.natCast_add])
 go_enter Tryz.func78,Tryz.ntmps78
 go_wp2_with fail
 refine HF.out.mono ?_
 rintro e w' ⟨rfl,rfl⟩
 go_wp2_with fail
 refine HL.out.mono ?_
 rintro e w' ⟨rfl,rfl⟩
 go_wp2_with fail
 go_ret
 refine ⟨?_,rfl⟩
 rw [← HR.out]
 first | rfl | (congr 2;omega)
open Go.RowKit
open Pl (Un)
theorem below_drewN (w:World) (n:Nat):Below w.heap.size w (w.drewN n):=⟨rfl,rfl,rfl,Nat.le_refl _,fun _ _=>rfl⟩
theorem made_past (w:World) (fr:Nat) (n:Int) (hf:fr≤1099511627776) :
  PastAt ((w.alloc (.cells #[.int .i64 n] 3)).alloc (.cells #[.int .u64 (fr:Int),.slice none 0 0,.slice (some ⟨w.heap.size,0,none⟩) 1 1] 166)) (w.heap.size + 1) (fun b=>b≠w.heap.size + 1) fr n []:=by
 have h1:OwnR encI 1 3 (w.alloc (.cells #[.int .i64 n] 3)) w.heap.size (.slice (some ⟨w.heap.size,0,none⟩) 1 1) [n]:=litI w [n] (by simp [maxLen])
 have h2:=(h1.alloc (.cells #[.int .u64 (fr:Int),.slice none 0 0,.slice (some ⟨w.heap.size,0,none⟩) 1 1] 166)).rws encI_len
 refine ⟨none,0,0,some ⟨w.heap.size,0,none⟩,1,1,[],?_,OpsF.none_ _ _,rfl,?_,?_,fun h=>h rfl,⟨by simp,by simpa using hf,fun o ho=>by cases ho⟩⟩
 ·exact heap_new (by simp)
 ·rw [Pl.lens_nil];exact h2.2
 ·intro _ ad e
  cases e
  exact Nat.ne_of_lt (Nat.lt_succ_self _)
set_option maxHeartbeats 400000 in
theorem new_any (fr:Nat) (n:Int) (w:World) (hf:fr≤1099511627776) (hn:0≤n) :
  Calls Tryz.prog 41 #[.int .u64 (fr:Int),.int .i64 n] w fun e w'=>e=.returned (.tuple #[.pointer (some ⟨w.heap.size + 1,0,none⟩),.int .i64 0])∧PastAt w' (w.heap.size + 1) (fun b=>b≠w.heap.size + 1) fr n []∧Below w.heap.size w w':=by
 have HM:=Lib.hid (made_past w fr n hf)
 have z0:decide ((fr:Int) > 1099511627776)=false:=decide_eq_false (by omega)
 have z1:decide (1099511627776<(fr:Int))=false:=decide_eq_false (by omega)
 have z2:decide (n<0)=false:=decide_eq_false (by omega)
 clear hf hn
 go_enter Tryz.func41,Tryz.ntmps41
 go_wp2_with fail
 go_returns
 exact ⟨rfl,HM.out,below_alloc (below_box _ _) _⟩
def PlaceF (w:World) (v:Option Addr) (least:Int) (f:Value):Prop :=
 ∃ a b,f=.func (.func 204) #[] #[.pointer (some ⟨a,0,none⟩),.pointer (some ⟨b,0,none⟩)]∧w.heap[a]?=some (.cells #[.pointer v] 82 (0,0))∧w.heap[b]?=some (.cells #[.int .u64 least] 27 (0,0))
set_option maxHeartbeats 400000 in
theorem places_any (v:Option Addr) (least:Int) (w:World) :
  Calls Tryz.prog 148 #[.pointer v,.int .u64 least] w fun e w'=>(∃ f,e=.returned f∧PlaceF w' v least f)∧Below w.heap.size w w':=by
 go_enter Tryz.func148,Tryz.ntmps148
 go_wp2_with fail
 go_ret
 refine ⟨⟨_,rfl,w.heap.size,w.heap.size + 1,rfl,?_,heap_new (by simp)⟩,below_alloc (below_box _ _) _⟩
 exact below_old (w:=w.alloc (.cells #[.pointer v] 82)) (below_box _ _) (heap_new rfl) (by simp)
namespace Pl
def place (fr len:Nat) (least rev:Nat):Int × Int:=if rev > fr + len then (0,31) else if rev<fr + least then (0,32) else ((rev:Int) - fr,0)
end Pl
set_option maxHeartbeats 400000 in
theorem place_past {w:World} {p:Nat} {F:Nat→Prop} {fr:Nat} {N:Int} {P:List Pl.Op} (h:PastAt w p F fr N P) (least rev:Nat) (hl:least≤1) (hv:rev≤18446744073709551615) (a b:Nat)
  (ha:w.heap[a]?=some (.cells #[.pointer (some ⟨p,0,none⟩)] 82 (0,0))) (hb:w.heap[b]?=some (.cells #[.int .u64 (least:Int)] 27 (0,0))) :
  Calls Tryz.prog 204 #[.int .u64 (rev:Int),.pointer (some ⟨a,0,none⟩),.pointer (some ⟨b,0,none⟩)] w fun e w'=>e=.returned (.tuple #[.int .i64 (Pl.place fr P.length least rev).1,.int .i64 (Pl.place fr P.length least rev).2])∧Below w.heap.size w w':=by
 have HN:=Lib.hid (none_past h)
 have HW:=Lib.hid (now_past h)
 have hr:=h.fine.rev
 have hc:=h.fine.cnt
 obtain ⟨A,n,c,B,m,d,L,h⟩:=h
 obtain ⟨c0,c1,c2⟩:=h.cells
 have ca:=cell0 (r:=[]) ha
 have cb:=cell0 (r:=[]) hb
 obtain ⟨k,hk⟩ : ∃ k,k=P.length:=⟨_,rfl⟩
 rw [← hk] at HW hr hc ⊢
 obtain ⟨nw,hnw⟩ : ∃ nw,nw=fr + k:=⟨_,rfl⟩
 rw [← hnw] at HW hr
 have hfn:fr≤nw:=by omega
 obtain ⟨ra,hra⟩ : ∃ r,r=(Pl.place fr k least rev).1:=⟨_,rfl⟩
 obtain ⟨rb,hrb⟩ : ∃ r,r=(Pl.place fr k least rev).2:=⟨_,rfl⟩
 rw [← hra,← hrb]
 unfold Pl.place at hra hrb
 rw [← hnw] at hra hrb
 clear h ha hb hk hnw
 by_cases h1:rev > nw
 ·rw [if_pos h1] at hra hrb
  have HE:=Lib.hid (And.intro hra hrb)
  clear hra hrb
  have z1:decide (nw<rev)=true:=decide_eq_true (by omega)
  clear h1 hl hv hr hc
  go_enter Tryz.func204,Tryz.ntmps204
  go_wp2_with fail
  refine HN.out.mono ?_
  rintro e w' ⟨rfl,rfl⟩
  go_wp2_with fail
  refine HW.out.mono ?_
  rintro e w' ⟨rfl,rfl⟩
  go_wp2_with fail
  go_returns
  exact ⟨by rw [HE.out.1,HE.out.2];rfl,Below.refl _ _⟩
 ·have z1:decide (nw<rev)=false:=decide_eq_false (by omega)
  have hw:IntKind.u64.wrap ((fr:Int) + (least:Int))=(fr:Int) + (least:Int):=wrap_u64 (by omega) (by omega)
  by_cases h2:rev<fr + least
  ·rw [if_neg h1,if_pos h2] at hra hrb
   have HE:=Lib.hid (And.intro hra hrb)
   clear hra hrb
   have z2:decide ((rev:Int)<(fr:Int) + (least:Int))=true:=decide_eq_true (by omega)
   clear h1 h2 hl hc
   go_enter Tryz.func204,Tryz.ntmps204
   go_wp2_with fail
   refine HN.out.mono ?_
   rintro e w' ⟨rfl,rfl⟩
   go_wp2_with fail
   refine HW.out.mono ?_
   rintro e w' ⟨rfl,rfl⟩
   go_wp2_with fail
   go_quiet (fail)
   go_wp2_with fail
   go_returns
   exact ⟨by rw [HE.out.1,HE.out.2];rfl,below_drewN _ _⟩
  ·rw [if_neg h1,if_neg h2] at hra hrb
   have hw3:wrap64 ((rev:Int) - (fr:Int))=(rev:Int) - (fr:Int):=by unfold wrap64;omega
   have HE:=Lib.hid (And.intro (hra.trans hw3.symm) hrb)
   clear hra hrb hw3
   have z2:decide ((rev:Int)<(fr:Int) + (least:Int))=false:=decide_eq_false (by omega)
   have hw2:IntKind.u64.wrap ((rev:Int) - (fr:Int))=(rev:Int) - (fr:Int):=wrap_u64 (by omega) (by omega)
   clear h1 h2 hl
   go_enter Tryz.func204,Tryz.ntmps204
   go_wp2_with fail
   refine HN.out.mono ?_
   rintro e w' ⟨rfl,rfl⟩
   go_wp2_with fail
   refine HW.out.mono ?_
   rintro e w' ⟨rfl,rfl⟩
   go_wp2_with fail
   go_quiet (fail)
   go_wp2_with fail
   go_returns
   exact ⟨by rw [HE.out.1,HE.out.2];rfl,below_drewN _ _⟩
open Go.RowKit
open Pl (Un)
namespace Pl
def Only (P:Int→Prop) (u:Un) (cs:List Int):Prop:=(u.k=1→P u.c)∧(u.k=2→∀ c,cs[u.p.toNat]?=some c→P c)
def OnlyR (P:Int→Prop):List Un→List Int→Prop
 | [],_=>True
 | u :: r,cs=>Only P u cs∧OnlyR P r (behind u cs)
theorem mem_behind {u:Un} {cs:List Int} {c:Int} (h:c ∈ behind u cs):c ∈ cs∨u.k=1∧c=u.c:=by
 unfold behind at h
 split at h
 ·rename_i hk
  rcases List.mem_append.1 h with h | h
  ·exact Or.inl (List.mem_of_mem_take h)
  ·rcases List.mem_cons.1 h with h | h
   ·exact Or.inr ⟨hk,h⟩
   ·exact Or.inl (List.mem_of_mem_drop h)
 ·split at h
  ·rcases List.mem_append.1 h with h | h
   ·exact Or.inl (List.mem_of_mem_take h)
   ·exact Or.inl (List.mem_of_mem_drop h)
  ·exact Or.inl h
theorem all_leave {Q:Int→Prop}:∀ {r:List Un} {cs:List Int},(∀ c ∈ cs,Q c)→(∀ u ∈ r,u.k=1→Q u.c)→∀ c ∈ leave r cs,Q c
 | [],_,h,_=>h
 | u :: r,cs,h,hu=>all_leave (r:=r) (cs:=behind u cs) (fun c hc=>by
   rcases mem_behind hc with hc | ⟨hk,rfl⟩
   ·exact h c hc
   ·exact hu u (List.mem_cons_self ..) hk) (fun v hv=>hu v (List.mem_cons_of_mem _ hv))
def fillU (u:Un) (cs:List Int):Un:=if u.k=2 then ⟨u.k,u.p,cs.getD u.p.toNat 0,u.x,u.y⟩ else u
def fillL:List Un→List Int→List Un
 | [],_=>[]
 | u :: r,cs=>fillU u cs :: fillL r (behind u cs)
def Filled:List Un→List Int→Prop
 | [],_=>True
 | u :: r,cs=>(u.k=2→cs[u.p.toNat]?=some u.c)∧Filled r (behind u cs)
theorem fillU_k (u:Un) (cs:List Int):(fillU u cs).k=u.k∧(fillU u cs).p=u.p∧(fillU u cs).x=u.x∧(fillU u cs).y=u.y:=by
 unfold fillU;split <;> exact ⟨rfl,rfl,rfl,rfl⟩
theorem fillU_behind (u:Un) (cs ds:List Int):behind (fillU u cs) ds=behind u ds:=by
 unfold fillU
 split
 ·rename_i h;unfold behind;simp only [h];rfl
 ·rfl
theorem fill_len (r:List Un) (cs:List Int):(fillL r cs).length=r.length:=by
 induction r generalizing cs with
 | nil=>rfl
 | cons u r ih=>simp [fillL,ih]
theorem fill_all {r:List Un} {cs:List Int} (hf:FitR r cs) (hm:∀ c ∈ cs,May c):FitR (fillL r cs) cs∧Filled (fillL r cs) cs∧leave (fillL r cs) cs=leave r cs:=by
 induction r generalizing cs with
 | nil=>exact ⟨trivial,trivial,rfl⟩
 | cons u r ih =>
  have hm2:∀ c ∈ behind u cs,May c:=fun c hc=>by
   rcases mem_behind hc with hc | ⟨hk,rfl⟩
   ·exact hm c hc
   ·rcases hf.1.1 with ⟨h0,_⟩ | ⟨_,_,h⟩
    ·rw [h0] at hk;cases hk
    ·exact h
  obtain ⟨g1,g2,g3⟩:=ih hf.2 hm2
  have hfu:Fit (fillU u cs) cs.length:=by
   rcases fit_cases hf.1 with ⟨x,y,rfl⟩ | ⟨p,c,x,y,rfl,hp,hc⟩ | ⟨p,c,x,y,rfl,hp,hc⟩
   ·exact hf.1
   ·exact hf.1
   ·refine fit_del x y hp ?_
    rw [Int.toNat_natCast,List.getD_eq_getElem?_getD,List.getElem?_eq_getElem hp]
    exact hm _ (List.getElem_mem hp)
  refine ⟨⟨hfu,by rw [fillU_behind];exact g1⟩,⟨fun hk=>?_,by rw [fillU_behind];exact g2⟩,?_⟩
  ·rw [(fillU_k u cs).1] at hk
   have hp:u.p.toNat<cs.length:=by have:=hf.1.2.2 hk;have h0:0≤u.p:=by rcases hf.1.1 with ⟨h,_⟩ | ⟨_,h,_⟩ <;> omega
                                   omega
   rw [(fillU_k u cs).2.1,List.getElem?_eq_getElem hp]
   unfold fillU
   rw [if_pos hk]
   simp [List.getD_eq_getElem?_getD,hp]
  ·show leave (fillL r (behind u cs)) (behind (fillU u cs) cs)=leave r (behind u cs)
   rw [fillU_behind];exact g3
def invU (x y:Int) (u:Un):Un:=if u.k=1 then ⟨2,u.p,0,x,y⟩ else if u.k=2 then ⟨1,u.p,u.c,x,y⟩ else ⟨0,0,0,x,y⟩
def invR (x y:Int) (r:List Un):List Un:=(r.map (invU x y)).reverse
theorem inv_len (x y:Int) (r:List Un):(invR x y r).length=r.length:=by simp [invR]
theorem inv_ids (x y:Int) (r:List Un):∀ u ∈ invR x y r,u.x=x∧u.y=y:=by
 intro u hu
 obtain ⟨v,_,rfl⟩:=List.mem_map.1 (List.mem_reverse.1 hu)
 unfold invU;split
 ·exact ⟨rfl,rfl⟩
 ·split <;> exact ⟨rfl,rfl⟩
end Pl
open Go.RowKit
namespace Pl
abbrev Mks:=List (Int × Int)
def Rising (M:Mks):Prop:=M.Pairwise (fun a b=>a.1<b.1)
def getM (M:Mks) (c:Int):Option Int:=(M.find? (fun p=>p.1 == c)).map (·.2)
def delM (M:Mks) (c:Int):Mks:=M.filter (fun p=>!(p.1 == c))
def insM (x:Int × Int):Mks→Mks
 | []=>[x]
 | y :: r=>if x.1<y.1 then x :: y :: r else y :: insM x r
def putM (M:Mks) (c v:Int):Mks:=insM (c,v) (delM M c)
def goM (f:Int→Int) (M:Mks):Mks:=M.map (fun p=>(p.1,f p.2))
theorem mem_ins {x p:Int × Int}:∀ {M:Mks},p ∈ insM x M↔p=x∨p ∈ M
 | []=>by simp [insM]
 | y :: r=>by
  unfold insM
  split
  ·simp
  ·simp only [List.mem_cons,mem_ins (M:=r)]
   constructor
   ·rintro (h | h | h) <;> simp [h]
   ·rintro (h | h | h) <;> simp [h]
theorem mem_del {M:Mks} {c:Int} {p:Int × Int}:p ∈ delM M c↔p ∈ M∧p.1≠c:=by simp [delM]
theorem rising_del {M:Mks} (h:Rising M) (c:Int):Rising (delM M c):=List.Pairwise.filter _ h
theorem rising_ins {x:Int × Int}:∀ {M:Mks},Rising M→(∀ p ∈ M,p.1≠x.1)→Rising (insM x M)
 | [],_,_=>by simp [insM,Rising]
 | y :: r,h,hn=>by
  have h1:=List.pairwise_cons.1 h
  unfold insM
  split
  ·rename_i hxy
   refine List.pairwise_cons.2 ⟨fun p hp=>?_,h⟩
   rcases List.mem_cons.1 hp with rfl | hp
   ·exact hxy
   ·have:=h1.1 p hp;omega
  ·rename_i hxy
   refine List.pairwise_cons.2 ⟨fun p hp=>?_,rising_ins h1.2 (fun p hp=>hn p (List.mem_cons_of_mem _ hp))⟩
   rcases mem_ins.1 hp with rfl | hp
   ·have:=hn y (List.mem_cons_self ..);omega
   ·exact h1.1 p hp
theorem rising_put {M:Mks} (h:Rising M) (c v:Int):Rising (putM M c v):=rising_ins (rising_del h c) (fun _ hp=>(mem_del.1 hp).2)
theorem rising_go {M:Mks} (h:Rising M) (f:Int→Int):Rising (goM f M):=by
 unfold goM Rising
 rw [List.pairwise_map]
 exact h
theorem rising_nil:Rising []:=List.Pairwise.nil
theorem get_iff {M:Mks} (h:Rising M) {c v:Int}:getM M c=some v↔(c,v) ∈ M:=by
 induction M with
 | nil=>simp [getM]
 | cons y r ih =>
  have h1:=List.pairwise_cons.1 h
  obtain ⟨a,x⟩:=y
  unfold getM at ih ⊢
  rw [List.find?_cons]
  by_cases e:a=c
  ·subst e
   simp only [beq_self_eq_true,Option.map_some,Option.some.injEq,List.mem_cons,Prod.mk.injEq,true_and]
   constructor
   ·intro h;exact Or.inl h.symm
   ·rintro (h2 | h2)
    ·exact h2.symm
    ·have:=h1.1 _ h2;simp at this
  ·have e2:(a == c)=false:=by simpa using e
   simp only [e2,List.mem_cons,Prod.mk.injEq]
   rw [ih h1.2]
   constructor
   ·intro h;exact Or.inr h
   ·rintro (⟨h2,_⟩ | h2)
    ·exact absurd h2.symm e
    ·exact h2
theorem get_none {M:Mks} {c:Int}:getM M c=none↔∀ p ∈ M,p.1≠c:=by
 unfold getM
 rw [Option.map_eq_none_iff,List.find?_eq_none]
 simp
theorem opt_ext {a b:Option Int} (h:∀ v,a=some v↔b=some v):a=b:=by
 cases a with
 | none =>
  cases b with
  | none=>rfl
  | some y=>exact absurd ((h y).2 rfl) (by simp)
 | some x=>exact ((h x).1 rfl).symm
theorem get_put {M:Mks} (h:Rising M) (c v d:Int):getM (putM M c v) d=if d=c then some v else getM M d:=by
 refine opt_ext fun z=>?_
 rw [get_iff (rising_put h c v)]
 unfold putM
 rw [mem_ins,mem_del,Prod.mk.injEq]
 split
 ·rename_i e
  subst e
  constructor
  ·rintro (⟨_,h2⟩ | ⟨_,h2⟩)
   ·rw [h2]
   ·exact absurd rfl h2
  ·intro h2;exact Or.inl ⟨rfl,(Option.some.inj h2).symm⟩
 ·rename_i e
  rw [get_iff h]
  constructor
  ·rintro (⟨h2,_⟩ | ⟨h2,_⟩)
   ·exact absurd h2 e
   ·exact h2
  ·intro h2;exact Or.inr ⟨h2,e⟩
theorem get_del {M:Mks} (h:Rising M) (c d:Int):getM (delM M c) d=if d=c then none else getM M d:=by
 refine opt_ext fun z=>?_
 rw [get_iff (rising_del h c),mem_del]
 split
 ·rename_i e
  subst e
  simp
 ·rename_i e
  rw [get_iff h]
  exact ⟨fun h2=>h2.1,fun h2=>⟨h2,e⟩⟩
theorem get_go {M:Mks} (f:Int→Int) (d:Int):getM (goM f M) d=(getM M d).map f:=by
 unfold getM goM
 rw [List.find?_map,Option.map_map,Option.map_map]
 rfl
theorem mks_ext {M N:Mks} (hM:Rising M) (hN:Rising N) (h:∀ c,getM M c=getM N c):M=N:=by
 have hp:∀ p,p ∈ M↔p ∈ N:=fun p=>by
  obtain ⟨c,v⟩:=p
  rw [← get_iff hM,← get_iff hN,h c]
 induction M generalizing N with
 | nil =>
  cases N with
  | nil=>rfl
  | cons y r=>exact absurd ((hp y).2 (List.mem_cons_self ..)) (by simp)
 | cons x r ih =>
  cases N with
  | nil=>exact absurd ((hp x).1 (List.mem_cons_self ..)) (by simp)
  | cons y s =>
   have h1:=List.pairwise_cons.1 hM
   have h2:=List.pairwise_cons.1 hN
   have e:x=y:=by
    rcases List.mem_cons.1 ((hp x).1 (List.mem_cons_self ..)) with e | hx
    ·exact e
    ·rcases List.mem_cons.1 ((hp y).2 (List.mem_cons_self ..)) with e | hy
     ·exact e.symm
     ·have:=h1.1 y hy;have:=h2.1 x hx;omega
   subst e
   congr 1
   refine ih h1.2 h2.2 (fun c=>?_) (fun p=>?_)
   ·refine opt_ext fun v=>?_
    rw [get_iff h1.2,get_iff h2.2]
    constructor
    ·intro hr
     rcases List.mem_cons.1 ((hp (c,v)).1 (List.mem_cons_of_mem _ hr)) with e | hs
     ·rw [← e] at h1;exact absurd (h1.1 _ hr) (by simp)
     ·exact hs
    ·intro hs
     rcases List.mem_cons.1 ((hp (c,v)).2 (List.mem_cons_of_mem _ hs)) with e | hr
     ·rw [← e] at h2;exact absurd (h2.1 _ hs) (by simp)
     ·exact hr
   ·constructor
    ·intro hr
     rcases List.mem_cons.1 ((hp p).1 (List.mem_cons_of_mem _ hr)) with e | hs
     ·subst e;exact absurd (h1.1 _ hr) (by omega)
     ·exact hs
    ·intro hs
     rcases List.mem_cons.1 ((hp p).2 (List.mem_cons_of_mem _ hs)) with e | hr
     ·subst e;exact absurd (h2.1 _ hs) (by omega)
     ·exact hr
end Pl
section
variable {H:Type}
def ent (p:Int × Int):Lit × DataW H:=(Lit.int .u32 p.1,DataW.lit (Lit.int .i64 p.2))
def dat (M:Pl.Mks):DataW H:=.map (M.map ent)
theorem same_u32 (a c:Int):(Lit.int .u32 a).sameKey (Lit.int .u32 c)=(a == c):=by
 unfold Lit.sameKey
 rw [Bool.eq_iff_iff,decide_eq_true_iff,beq_iff_eq]
 simp
theorem before_u32 (a c:Int):(Lit.int .u32 a).before (Lit.int .u32 c)=decide (a<c):=rfl
theorem find_dat (M:Pl.Mks) (c:Int):(M.map (ent (H:=H))).find? (fun p=>p.1.sameKey (.int .u32 c))=(M.find? (fun p=>p.1 == c)).map ent:=by
 rw [List.find?_map]
 congr 2
 funext p
 exact same_u32 p.1 c
theorem has_dat (M:Pl.Mks) (c:Int):Maps.has (dat M:DataW H) (.int .u32 c)=(Pl.getM M c).isSome:=by
 unfold dat Pl.getM
 rw [Maps.has_eq,Option.isSome_map]
 induction M with
 | nil=>rfl
 | cons y r ih =>
  rw [List.map_cons,List.any_cons,ih,List.find?_cons]
  have e:(ent (H:=H) y).1.sameKey (.int .u32 c)=(y.1 == c):=same_u32 y.1 c
  rw [e]
  cases h:(y.1 == c) <;> simp
theorem at_dat (M:Pl.Mks) (c:Int) (z:DataW H):(dat M).atKey (.int .u32 c) z=((Pl.getM M c).map fun v=>DataW.lit (Lit.int .i64 v)).getD z:=by
 unfold dat DataW.atKey Pl.getM
 simp only
 rw [find_dat,Option.map_map]
 cases M.find? (fun p=>p.1 == c) <;> rfl
theorem del_dat (M:Pl.Mks) (c:Int):(dat M:DataW H).del (.int .u32 c)=dat (Pl.delM M c):=by
 unfold dat DataW.del Pl.delM
 simp only
 rw [List.filter_map]
 congr 3
 funext p
 show (!(Lit.int .u32 p.1).sameKey (.int .u32 c))=_
 rw [same_u32]
theorem ins_dat (x:Int × Int):∀ M:Pl.Mks,DataW.insert (ent (H:=H) x) (M.map ent)=(Pl.insM x M).map ent
 | []=>rfl
 | y :: r=>by
  rw [List.map_cons]
  unfold DataW.insert Pl.insM
  have e:(ent (H:=H) x).1.before (ent (H:=H) y).1=decide (x.1<y.1):=before_u32 x.1 y.1
  rw [e,ins_dat x r]
  by_cases h:x.1<y.1
  ·rw [decide_eq_true h,if_pos rfl,if_pos h];rfl
  ·rw [decide_eq_false h,if_neg (by simp),if_neg h];rfl
theorem put_dat (M:Pl.Mks) (c v:Int):(dat M:DataW H).put (.int .u32 c) (.lit (.int .i64 v))=dat (Pl.putM M c v):=by
 have h:=del_dat (H:=H) M c
 unfold dat DataW.del at h
 simp only [DataW.map.injEq] at h
 unfold dat DataW.put Pl.putM
 simp only
 rw [h]
 exact congrArg _ (ins_dat (c,v) (Pl.delM M c))
theorem size_dat (M:Pl.Mks):Maps.size (dat M:DataW H)=M.length:=by
 unfold dat
 rw [Maps.size_eq,List.length_map]
end
open Go.RowKit
namespace Pl
structure Coll (M:Mks) (left:Lit→Bool) (Cs:Mks):Prop where
 apart:Cs.Pairwise (fun a b=>a.1≠b.1)
 mem:∀ p,p ∈ Cs↔p ∈ M∧left (.int .u32 p.1)=false
theorem coll_step {M:Mks} {left:Lit→Bool} {Cs:Mks} (h:Coll M left Cs) (hM:Rising M) {x c:Int} (hl:left (.int .u32 x)=true) (hg:getM M x=some c):Coll M (fun z=>left z && !z.sameKey (.int .u32 x)) (Cs ++ [(x,c)]):=by
 have hx:=(get_iff hM).1 hg
 refine ⟨?_,fun p=>?_⟩
 ·rw [List.pairwise_append]
  refine ⟨h.apart,by simp,fun a ha b hb=>?_⟩
  rw [List.mem_singleton] at hb
  subst hb
  intro e
  have h2:=((h.mem a).1 ha).2
  rw [e,hl] at h2
  cases h2
 ·rw [List.mem_append,h.mem,List.mem_singleton,Bool.and_eq_false_iff,same_u32]
  obtain ⟨d,v⟩:=p
  constructor
  ·rintro (⟨h1,h2⟩ | e)
   ·exact ⟨h1,Or.inl h2⟩
   ·cases e
    exact ⟨hx,Or.inr (by simp)⟩
  ·rintro ⟨h1,h2 | h2⟩
   ·exact Or.inl ⟨h1,h2⟩
   ·have e:d=x:=by simpa using h2
    subst e
    have:=(get_iff hM).2 h1
    rw [hg] at this
    cases this
    exact Or.inr rfl
theorem coll_end {M:Mks} {left:Lit→Bool} {Cs:Mks} (h:Coll M left Cs) (hM:Rising M) (hl:∀ k,left k=false):Cs.Perm M:=by
 have hn:∀ {L:Mks},L.Pairwise (fun a b=>a.1≠b.1)→L.Nodup:=fun h=>h.imp fun h e=>h (by rw [e])
 refine (List.perm_ext_iff_of_nodup (hn h.apart) (hn (hM.imp fun h e=>by omega))).2 fun p=>?_
 rw [h.mem]
 exact ⟨fun h=>h.1,fun h=>⟨h,hl _⟩⟩
end Pl
end Go.Proofs.YtlgdcelgkiipaaaGreat
