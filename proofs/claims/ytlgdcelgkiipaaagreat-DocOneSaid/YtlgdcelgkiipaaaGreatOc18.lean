/-
  Leases in memory: their block, their map; none, Live, Drop, Set. Conditions: those that each states.
  The document's own leases: lay (one laid in its place). Conditions: a million leases at most.
  The document's own leases: Set, Drop, Expire, New. Conditions: a million leases at most; rising.
-/
import Derived.Test.YtlgdcelgkiipaaaGreatOc17
import Derived.Test.YtlgdcelgkiipaaaGreatOc09
import Derived.Lib.Hide
import Derived.BigQuiet
import Derived.Handy
set_option maxRecDepth 100000
set_option linter.unusedVariables false
namespace Go.Proofs.YtlgdcelgkiipaaaGreat.Ls
open Go.RowKit
theorem keyedC:Maps.Keyed Tryz.prog 28:=Maps.int_keyed Tryz.underlying28
theorem wf_u32 {c:Int} (h:0≤c∧c<4294967296):(Lit.int .u32 c).wf=true:=by
 have e1:IntKind.u32.min=0:=by decide
 have e2:IntKind.u32.max=4294967295:=by decide
 simp only [Lit.wf,e1,e2,Bool.and_eq_true,decide_eq_true_eq]
 omega
theorem wf_u64 {c:Int} (h:0≤c∧c<9223372036854775808):(Lit.int .u64 c).wf=true:=by
 have e1:IntKind.u64.min=0:=by decide
 have e2:IntKind.u64.max=18446744073709551615:=by decide
 simp only [Lit.wf,e1,e2,Bool.and_eq_true,decide_eq_true_eq]
 omega
theorem keyC {c:Int} (h:0≤c∧c<4294967296):keyOf Tryz.prog 28 (.int .u32 c)=some (.int .u32 c):=Maps.keyOf_int_mk Tryz.underlying28 (wf_u32 h)
theorem readT {v:Int} (h:0≤v∧v<9223372036854775808):plainElem (H:=Unit) Tryz.prog 27 (.int .u64 v)=some (.lit (.int .u64 v),[]):=plainElem_int Tryz.underlying27 (wf_u64 h)
namespace Lp
open Pl
theorem rising_len:∀ {M:Mks} {lo hi:Int},Rising M→(∀ p ∈ M,lo≤p.1∧p.1<hi)→lo≤hi→(M.length:Int)≤hi - lo
 | [],_,_,_,_,h=>by simpa using h
 | x :: r,lo,hi,hr,hb,h=>by
  have h1:=List.pairwise_cons.1 hr
  have hx:=hb x (List.mem_cons_self ..)
  have:=rising_len (M:=r) (lo:=x.1 + 1) (hi:=hi) h1.2 (fun p hp=>⟨by have:=h1.1 p hp;omega,(hb p (List.mem_cons_of_mem _ hp)).2⟩) (by omega)
  rw [List.length_cons]
  omega
theorem len_put_old {M:Mks} {c v u:Int} (h:Rising M) (hg:getM M c=some u):(putM M c v).length≤M.length:=by
 have h1:(delM M c).length<M.length:=List.length_filter_lt_length_iff_exists.2 ⟨(c,u),(get_iff h).1 hg,by simp⟩
 unfold putM
 rw [len_ins]
 omega
structure LsOk (M:Mks):Prop where
 up:Rising M
 key:∀ q ∈ M,0≤q.1∧q.1<4294967296
 tick:∀ q ∈ M,0≤q.2∧q.2≤1099511627840
theorem LsOk.len {M:Mks} (h:LsOk M):M.length<maxLen:=by
 have:=rising_len h.up h.key (by omega)
 unfold maxLen
 omega
theorem LsOk.nil:LsOk []:=⟨rising_nil,by simp,by simp⟩
theorem LsOk.put {M:Mks} (h:LsOk M) {c v:Int} (hc:0≤c∧c<4294967296) (hv:0≤v∧v≤1099511627840):LsOk (putM M c v) :=
 ⟨rising_put h.up c v,fun q hq=>by
  unfold putM at hq
  rcases mem_ins.1 hq with rfl | hq
  ·exact hc
  ·exact h.key q (mem_del.1 hq).1,fun q hq=>by
  unfold putM at hq
  rcases mem_ins.1 hq with rfl | hq
  ·exact hv
  ·exact h.tick q (mem_del.1 hq).1⟩
theorem LsOk.del {M:Mks} (h:LsOk M) (c:Int):LsOk (delM M c) :=
 ⟨rising_del h.up c,fun q hq=>h.key q (mem_del.1 hq).1,fun q hq=>h.tick q (mem_del.1 hq).1⟩
end Lp
theorem own_tight {w:World} {b n:Nat} {M:Pl.Mks} (h:w.ownsMap Tryz.prog 28 (plainElem (H:=Unit) Tryz.prog 27) b n (datL M)):w.ownsMap Tryz.prog 28 (plainElem (H:=Unit) Tryz.prog 27) b M.length (datL M):=by
 obtain ⟨es,clock,hb,F,hs,hD⟩:=h
 refine ⟨es,clock,hb,F,?_,hD⟩
 have e:=hD
 unfold datL at e
 rw [DataW.map.injEq] at e
 have:=congrArg List.length e
 rw [List.length_map,length_sorted,List.length_map] at this
 simp only [Array.length_toList] at this
 omega
theorem own_tn {w w':World} {b:Nat} {T:Nat→Prop} {M:Pl.Mks} (h:w.ownsMap Tryz.prog 28 (plainElem (H:=Unit) Tryz.prog 27) b M.length (datL M)) (ht:Tn T w w') (hb:¬ T b):w'.ownsMap Tryz.prog 28 (plainElem (H:=Unit) Tryz.prog 27) b M.length (datL M):=by
 obtain ⟨es,clock,h1,h2⟩:=h
 exact ⟨es,clock,ht.old h1 hb,h2⟩
theorem turned_tn {w w':World} {b:Nat} (hm:w.mapTurned w' b):Tn (fun i=>i=b) w w':=by
 obtain ⟨es,clock,es',clock',h1,rfl⟩:=hm
 exact ⟨rfl,rfl,rfl,by simp [Go.ChangeMaps.setBlock],fun i _ hi=>Go.ChangeMaps.heap_setBlock_other h1 _ hi⟩
structure LeasesW (w:World) (p b:Nat) (M:Pl.Mks):Prop where
 blk:w.heap[p]?=some (.cells #[.map (some b)] 172 (0,0))
 own:w.ownsMap Tryz.prog 28 (plainElem (H:=Unit) Tryz.prog 27) b M.length (datL M)
 ok:Lp.LsOk M
 few:M.length≤16
section
variable {w w':World} {p b:Nat} {T:Nat→Prop} {M:Pl.Mks}
theorem LeasesW.lt (h:LeasesW w p b M):p<w.heap.size:=lt_of_block h.blk
theorem LeasesW.ne (h:LeasesW w p b M):p≠b:=by
 intro e
 obtain ⟨es,clock,hb,_⟩:=h.own
 rw [← e,h.blk] at hb
 cases hb
theorem LeasesW.tn (h:LeasesW w p b M) (ht:Tn T w w') (hp:¬ T p) (hb:¬ T b):LeasesW w' p b M:=⟨ht.old h.blk hp,own_tn h.own ht hb,h.ok,h.few⟩
theorem LeasesW.then_ (h:LeasesW w p b M) (hb:Below w.heap.size w w'):LeasesW w' p b M:=h.tn (Tn.of (fun _=>False) hb) (fun h=>h) (fun h=>h)
theorem LeasesW.cell (h:LeasesW w p b M):w.cell? ⟨p,0,none⟩=some (.map (some b)):=cell0 (r:=[]) h.blk
end
theorem eql_mapL_some (b:Nat) (w:World):(binOp .eql 168 (.map (some b)) (.map none)).run Tryz.prog w=.ok (.bool false) w:=by kernel_rfl
set_option maxHeartbeats 400000 in
theorem none_leases {w:World} {p b:Nat} {M:Pl.Mks} (h:LeasesW w p b M) :
  Calls Tryz.prog 140 #[.pointer (some ⟨p,0,none⟩)] w fun e w'=>e=.returned (.bool false)∧w'=w:=by
 have c0:=h.cell
 have q:=eql_mapL_some b
 clear h
 go_enter Tryz.func140,Tryz.ntmps140
 go_wp2_with fail
 go_ret
 exact ⟨rfl,rfl⟩
theorem look_ok {w:World} {b:Nat} {M:Pl.Mks} (h:w.ownsMap Tryz.prog 28 (plainElem (H:=Unit) Tryz.prog 27) b M.length (datL M)) {c:Int} (hc:0≤c∧c<4294967296) :
  (Instr.lookup 168 (.map (some b)) (.int .u32 c) true).run Tryz.prog w=.ok (.tuple #[.int .u64 ((Pl.getM M c).getD 0),.bool (Pl.getM M c).isSome]) w:=by
 obtain ⟨v,ps,hrun,hv⟩:=h.look_ok keyedC Tryz.underlying168 (Tryz.zeroValue27 w) (plainElem_int Tryz.underlying27 (wf_u64 (c:=0) (by decide))) (keyC hc)
 obtain ⟨c',rfl,hc',hw⟩:=plainElem_int_inv Tryz.underlying27 hv
 rw [hrun,hasL_dat]
 rw [atL_dat] at hc'
 have e:=congrArg Prod.fst hc'
 simp only at e
 cases hg:Pl.getM M c with
 | none=>rw [hg] at e;simp at e;rw [e];rfl
 | some z=>rw [hg] at e;simp at e;rw [e];rfl
theorem look_one {w:World} {b:Nat} {M:Pl.Mks} (h:w.ownsMap Tryz.prog 28 (plainElem (H:=Unit) Tryz.prog 27) b M.length (datL M)) {c:Int} (hc:0≤c∧c<4294967296) :
  (Instr.lookup 168 (.map (some b)) (.int .u32 c) false).run Tryz.prog w=.ok (.int .u64 ((Pl.getM M c).getD 0)) w:=by
 obtain ⟨v,hrun,hv,_⟩:=h.lookup_int keyedC Tryz.underlying168 Tryz.underlying27 (Tryz.zeroValue27 w) (keyC hc)
 rw [hrun]
 rw [atL_dat] at hv
 cases hg:Pl.getM M c with
 | none=>rw [hg] at hv;simp at hv;rw [hv];rfl
 | some z=>rw [hg] at hv;simp at hv;rw [hv];rfl
theorem storeL {w:World} {b:Nat} {M:Pl.Mks} (h:w.ownsMap Tryz.prog 28 (plainElem (H:=Unit) Tryz.prog 27) b M.length (datL M)) (hl:M.length<maxLen) {c v:Int} (hc:0≤c∧c<4294967296) (hv:0≤v∧v<9223372036854775808) :
  ∃ w',(Instr.mapUpdate 168 (.map (some b)) (.int .u32 c) (.int .u64 v)).run Tryz.prog w=.ok () w'∧w'.ownsMap Tryz.prog 28 (plainElem (H:=Unit) Tryz.prog 27) b (Pl.putM M c v).length (datL (Pl.putM M c v))∧Tn (fun i=>i=b) w w':=by
 obtain ⟨w',hrun,r1,r2⟩:=h.store keyedC Tryz.underlying168 hl (keyC hc) (readT hv)
 rw [putL_dat] at r1
 exact ⟨w',hrun,own_tight r1,turned_tn r2⟩
set_option maxHeartbeats 400000 in
theorem live_any {w:World} {p b:Nat} {M:Pl.Mks} (h:LeasesW w p b M) {c:Int} (hc:0≤c∧c<4294967296) (now:Int) (h0:0≤now) :
  Calls Tryz.prog 63 #[.pointer (some ⟨p,0,none⟩),.int .u32 c,.int .u64 now] w fun e w'=>e=.returned (.bool (Pl.liveM M c now))∧w'=w:=by
 have HN:=Lib.hid (none_leases h)
 have HL:=look_one h.own hc
 have c0:=h.cell
 have HE:=Lib.hid (show Pl.liveM M c now=decide (now<(Pl.getM M c).getD 0) by
  cases hg:Pl.getM M c with
  | none=>rw [Pl.live_none hg];exact (decide_eq_false (by simpa using h0)).symm
  | some v=>rw [Pl.live_some hg];rfl)
 obtain ⟨g,hg⟩ : ∃ g,g=(Pl.getM M c).getD 0:=⟨_,rfl⟩
 rw [← hg] at HL HE
 clear h hc hg h0
 go_enter Tryz.func63,Tryz.ntmps63
 go_wp2_with fail
 refine HN.out.mono ?_
 rintro e w' ⟨rfl,hw⟩
 rw [hw]
 clear hw w'
 go_wp2_with fail
 go_ret
 exact ⟨by rw [HE.out];rfl,rfl⟩
set_option maxHeartbeats 400000 in
theorem drop_any {w:World} {p b:Nat} {M:Pl.Mks} (h:LeasesW w p b M) {c:Int} (hc:0≤c∧c<4294967296) :
  Calls Tryz.prog 114 #[.pointer (some ⟨p,0,none⟩),.int .u32 c] w fun e w'=>e=.returned (.int .i64 (Pl.dropL M c).1)∧LeasesW w' p b (Pl.dropL M c).2∧Tn (fun i=>i=b) w w':=by
 have HN:=Lib.hid (none_leases h)
 have HL:=look_ok h.own hc
 have c0:=h.cell
 cases hg:Pl.getM M c with
 | none =>
  have HE:=Lib.hid (show Pl.dropL M c=(6,M) from if_pos hg)
  have HH:=Lib.hid h
  rw [hg] at HL
  clear h hc hg
  go_enter Tryz.func114,Tryz.ntmps114
  go_wp2_with fail
  refine HN.out.mono ?_
  rintro e w' ⟨rfl,hw⟩
  rw [hw]
  clear hw w'
  go_wp2_with fail
  go_ret
  rw [HE.out]
  exact ⟨rfl,HH.out,Tn.refl _ _⟩
 | some v =>
  have HE:=Lib.hid (show Pl.dropL M c=(0,Pl.delM M c) from if_neg (by rw [hg];simp))
  have HH:=Lib.hid h
  have hown:=h.own
  have hkey:=keyC hc
  rw [hg] at HL
  clear h hc hg
  go_enter Tryz.func114,Tryz.ntmps114
  go_wp2_with fail
  refine HN.out.mono ?_
  rintro e w' ⟨rfl,hw⟩
  rw [hw]
  clear hw w'
  go_wp2_with (at_delete;refine wpList_delete_own _ rfl _ _ 168 28 rfl 27 keyedC Tryz.underlying168 _ _ _ _ rfl hown _ _ rfl hkey ?_;intro w1 hown1 hturn1)
  go_ret
  rw [delL_dat] at hown1
  have ht:=turned_tn hturn1
  rw [HE.out]
  exact ⟨rfl,⟨ht.old HH.out.blk HH.out.ne,own_tight hown1,HH.out.ok.del c,Nat.le_trans (Pl.len_del_le _ _) HH.out.few⟩,ht⟩
open Go.RowKit
theorem run_append_ls (w:World) (ty:TypeId) (base:Nat) (A:Option Addr) (n c:Nat) (l:Pl.Mks) (hown:OwnLr w base (.slice A n c) l) (B:Nat) (A':Option Addr) (m c':Nat) (d:Pl.Mks) (hsrc:Rws encLs w B A' m c' d) (hmax:n + m≤5000000000000) (hbase:base≤w.heap.size) :
  ∃ A2 c2 w',(Builtin.append_ #[99,99] ty #[.slice A n c,.slice A' m c']).run Tryz.prog w=.ok (.slice A2 (n + m) c2) w'∧OwnLr w' base (.slice A2 (n + m) c2) (l ++ d)∧w.grownBy w' (Value.ownBlock (.slice A n c)) ∧
   (Value.ownBlock (.slice A2 (n + m) c2)=Value.ownBlock (.slice A n c)∨Value.ownBlock (.slice A2 (n + m) c2)=some w.heap.size) :=
 run_append_rws encLs_len encLs_one Tryz.underlying99 infoLr (by decide) (by decide) w ty base A n c l hown B A' m c' d hsrc (by unfold maxLen;omega) (by omega) hbase
theorem wpList_append_ls {ops:Array Oper} {rest:List Oper} {o:Oper} {a:Act} {Q:Exit→Act→World→Prop} (w:World) (hg:o.guard=none) (s x:Operand) (ho:o.op=.call { callee:=.builtin .append,args:=#[s,x],argTypes:=#[99,99] })
  (base:Nat) (A:Option Addr) (n c:Nat) (l:Pl.Mks) (hs:a.eval s=.slice A n c) (hown:OwnLr w base (.slice A n c) l)
  (B:Nat) (A':Option Addr) (m c':Nat) (d:Pl.Mks) (hx:a.eval x=.slice A' m c') (hsrc:Rws encLs w B A' m c' d) (hmax:n + m≤5000000000000) (hbase:base≤w.heap.size)
  (h:∀ A2 c2 w',OwnLr w' base (.slice A2 (n + m) c2) (l ++ d)→w.grownBy w' (Value.ownBlock (.slice A n c))→wpList Tryz.prog ops Q rest (a.put o.dst (.slice A2 (n + m) c2)) w'):wpList Tryz.prog ops Q (o :: rest) a w:=by
 obtain ⟨A2,c2,w1,hr,h2,h3,_⟩:=run_append_ls w o.type base A n c l hown B A' m c' d hsrc hmax hbase
 refine wpList_plain hg fun K hK=>?_
 unfold Oper.wp execOp
 simp only [ho,resolve,invoke,builtin,Sem.run_bind,Sem.run_pure,Result.andThen_ok,List.map_toArray,List.map_cons,List.map_nil,hs,hx,hr]
 exact hK _ _ (h A2 c2 w1 h2 h3)
theorem lit_ls (w:World) (x v:Int):Rws encLs (w.alloc (.cells #[.int .u32 x,.int .u64 v] 151)) (w.alloc (.cells #[.int .u32 x,.int .u64 v] 151)).heap.size (some ⟨w.heap.size,0,none⟩) 1 1 [(x,v)]:=((OwnR.lit (e:=151) encLs_len w [(x,v)] (by simp [maxLen])).rws encLs_len).2
def LyI (W1:World) (L:Pl.Mks) (n:Nat) (x v:Int) (l d i:Value) (wr:World):Prop:=∃ (j:Nat) (A:Option Addr) (c:Nat) (X:Pl.Mks) (xn:Nat) (b:Bool),i=.int .i64 (j:Int)∧d=.bool b∧l=.slice A xn c∧xn=X.length∧j≤n∧xn≤2 * j∧X ++ Pl.layL (x,v) (L.drop j) b=Pl.layL (x,v) L false∧OwnLr wr W1.heap.size (.slice A xn c) X∧Below W1.heap.size W1 wr
theorem lay_at {L:Pl.Mks} {j:Nat} (hj:j<L.length) (x:Int × Int) (d:Bool):Pl.layL x (L.drop j) d=if (L.getD j default).1=x.1 then Pl.layL x (L.drop (j + 1)) d else if d=false∧x.1<(L.getD j default).1 then x :: L.getD j default :: Pl.layL x (L.drop (j + 1)) true else L.getD j default :: Pl.layL x (L.drop (j + 1)) d:=by
 have e:L.drop j=L.getD j default :: L.drop (j + 1):=by
  rw [List.drop_eq_getElem_cons hj,List.getD_eq_getElem?_getD,List.getElem?_eq_getElem hj]
  rfl
 rw [e]
 rfl
set_option maxHeartbeats 2000000 in
theorem lay_any {w:World} {B q c:Nat} {A:Option Addr} {L:Pl.Mks} (h:RefL w B q A c L) (hs:L.length≤1000000) (hB:B≤w.heap.size) (x v:Int) :
  Calls Tryz.prog 191 #[.pointer (some ⟨q,0,none⟩),.agg #[.int .u32 x,.int .u64 v]] w fun e w'=>∃ A' c',e=.returned (.tuple #[])∧RefL w' B q A' c' (Pl.putM L x v)∧Tn (fun i=>i=q) w w':=by
 obtain ⟨n,hn⟩ : ∃ n,n=L.length:=⟨_,rfl⟩
 rw [← hn] at hs
 have HN:=Lib.hid hn
 obtain ⟨W1,hW1⟩ : ∃ W1,W1=w.alloc (.cells #[.int .u32 x,.int .u64 v] 151):=⟨_,rfl⟩
 have hb1:Below w.heap.size w W1:=by rw [hW1];exact below_alloc (Below.refl _ _) _
 have hP:W1.heap[w.heap.size]?=some (.cells #[.int .u32 x,.int .u64 v] 151 (0,0)):=by rw [hW1];exact heap_new rfl
 have HP:=Lib.hid hP
 have HW1:=Lib.hid hW1
 have HB1w:=Lib.hid hb1
 have HL:=Lib.hid (h.then_ hb1)
 have HQ:=Lib.hid (And.intro h.lt hB)
 have HCQ:=Lib.hid (show ∀ wr,Below W1.heap.size W1 wr→wr.cell? ⟨q,0,none⟩=some (.slice A n c)∧wr.cell? ⟨w.heap.size,0,none⟩=some (.int .u32 x)∧wr.cell? ⟨w.heap.size,1,none⟩=some (.int .u64 v) from fun wr hb=>by
  have hq:=below_old hb HP.out (lt_of_block HP.out)
  refine ⟨?_,cell0 (r:=[.int .u64 v]) hq,cell1 (r:=[]) hq⟩
  have:=(HL.out.then_ hb).cell
  rwa [← HN.out] at this)
 obtain ⟨c0,d0,d1⟩:=HCQ.out W1 (Below.refl _ _)
 clear h hn hW1 hb1 hP hB
 go_enter Tryz.func191,Tryz.ntmps191
 rw [HW1.out] at c0 d0 d1
 go_wp2_with fail
 rw [← HW1.out]
 clear c0 d0 d1
 go_loopw [4,5,6] (fun l d i wr=>LyI W1 L n x v l d i wr) (fun _ _ i _=>n - (intOf i).toNat)
 case atStart=>exact ⟨0,none,0,[],0,false,rfl,rfl,rfl,rfl,Nat.zero_le _,Nat.zero_le _,rfl,OwnR.nil_ _ _ _ _ _,Below.refl _ _⟩
 case round =>
  obtain ⟨j,A2,c2,X,xn,b,rfl,rfl,rfl,hxn,hj,hx2,hlay,ho,hb⟩:=hrel
  have HO:=Lib.hid ho
  have HB:=Lib.hid hb
  have HXN:=Lib.hid hxn
  obtain ⟨c0,d0,d1⟩:=HCQ.out wr hb
  by_cases hlt:j<n
  ·have hjL:j<L.length:=by rw [← HN.out];exact hlt
   have hcells:=fun wr (hb:Below W1.heap.size W1 wr)=>(HL.out.then_ hb).at_ hjL
   obtain ⟨g,o,rfl,hc⟩:=hcells wr hb
   have hrow:=lay_at hjL (x,v) b
   obtain ⟨⟨y,u⟩,hy⟩ : ∃ p,p=L.getD j default:=⟨_,rfl⟩
   have HCR:=Lib.hid (show ∀ wr,Below W1.heap.size W1 wr→wr.cell? ⟨g,o + j * 2,none⟩=some (.int .u32 y)∧wr.cell? ⟨g,o + j * 2 + 1,none⟩=some (.int .u64 u) from fun wr hb=>by
    obtain ⟨g',o',e,hc⟩:=hcells wr hb
    cases e
    have:=hc j hjL
    rw [← hy] at this
    exact this)
   rw [← hy] at hrow
   simp only at hrow
   obtain ⟨a0,a1⟩:=HCR.out wr hb
   have z0:(0:Int)≤(j:Int):=Int.natCast_nonneg _
   have z1:(j:Int)<(n:Int):=Int.ofNat_lt.2 hlt
   have HMS:=Lib.hid (show n - (j + 1)<n - j by omega)
   have HLAY:=Lib.hid hlay
   clear hcells hc hy ho hb hxn hlay hjL
   by_cases e:y=x
   ·have z2:(y == x)=true:=by simpa using e
    rw [if_pos e] at hrow
    have HROW:=Lib.hid hrow
    clear hrow e
    go_wp2_with fail
    go_quiet (fail)
    go_wp2_with fail
    go_roundw
    case rel=>exact ⟨j + 1,A2,c2,X,xn,b,by go_num,rfl,rfl,HXN.out,hlt,by omega,by rw [← HROW.out];exact HLAY.out,OwnR.then_ HO.out (below_drewN (Below.refl _ _) _),below_drewN HB.out _⟩
    case measure=>simp [intOf];(have:=HMS.out;omega)
   ·have z2:(y == x)=false:=by simpa using e
    rw [if_neg e] at hrow
    by_cases hd:b=false∧x<y
    ·rw [if_pos hd] at hrow
     have HROW:=Lib.hid hrow
     obtain ⟨rfl,hxy⟩:=hd
     have z3:decide (y > x)=true:=decide_eq_true hxy
     have z4:decide (x<y)=true:=decide_eq_true hxy
     clear hrow e hxy
     go_wp2_with fail
     go_quiet (fail)
     obtain ⟨wq,hwq⟩ : ∃ z,z=wr.drewN nq:=⟨_,rfl⟩
     rw [← hwq]
     have HBQ:=Lib.hid (show Below W1.heap.size W1 wq by rw [hwq];exact below_drewN HB.out _)
     have HOQ:=Lib.hid (show OwnLr wq W1.heap.size (.slice A2 xn c2) X by rw [hwq];exact OwnR.then_ HO.out (below_drewN (Below.refl _ _) _))
     clear hwq c0 d0 d1 a0 a1
     obtain ⟨c0,d0,d1⟩:=HCQ.out wq HBQ.out
     obtain ⟨a0,a1⟩:=HCR.out wq HBQ.out
     go_wp2_with fail
     go_quiet (fail)
     obtain ⟨wp,hwp⟩ : ∃ z,z=wq.drewN nq:=⟨_,rfl⟩
     rw [← hwp]
     have HBP:=Lib.hid (show Below W1.heap.size W1 wp by rw [hwp];exact below_drewN HBQ.out _)
     have HOP:=Lib.hid (show OwnLr wp W1.heap.size (.slice A2 xn c2) X by rw [hwp];exact OwnR.then_ HOQ.out (below_drewN (Below.refl _ _) _))
     clear hwp c0 d0 d1 a0 a1
     obtain ⟨c0,d0,d1⟩:=HCQ.out wp HBP.out
     obtain ⟨a0,a1⟩:=HCR.out wp HBP.out
     have HS1:=Lib.hid (lit_ls wp x v)
     have HO1:=Lib.hid (OwnR.alloc HOP.out (.cells #[.int .u32 x,.int .u64 v] 151))
     have HB1:=Lib.hid (below_alloc HBP.out (.cells #[.int .u32 x,.int .u64 v] 151))
     go_wp2_with (first | (at_builtin;refine wpList_append_ls _ rfl _ _ rfl W1.heap.size _ _ _ X rfl HO1.out _ _ _ _ [(x,v)] rfl HS1.out (by omega) HB1.out.size ?_;intro A3 c3 w3 ho3 hg3;have hb3:=HB1.out.grown hg3 HB1.out.size (fun k e=>(OwnR.lt HO1.out k e).1);have HB3:=Lib.hid (below_alloc hb3 (.cells #[.int .u32 y,.int .u64 u] 151));have HO3:=Lib.hid (OwnR.alloc ho3 (.cells #[.int .u32 y,.int .u64 u] 151));obtain ⟨c0,d0,d1⟩:=HCQ.out w3 hb3;obtain ⟨a0,a1⟩:=HCR.out w3 hb3;clear hg3 hb3 ho3) | (at_builtin;refine wpList_append_ls _ rfl _ _ rfl W1.heap.size _ _ _ (X ++ [(x,v)]) rfl HO3.out _ _ _ _ [(y,u)] rfl (lit_ls w3 y u) (by omega) HB3.out.size ?_;intro A4 c4 w4 ho4 hg4) | fail)
     go_roundw
     case rel=>exact ⟨j + 1,A4,c4,X ++ [(x,v)] ++ [(y,u)],xn + 1 + 1,true,by go_num,rfl,rfl,by rw [HXN.out];simp,hlt,by omega,by rw [← HLAY.out,HROW.out];simp,ho4,HB3.out.grown hg4 HB3.out.size (fun k e=>(OwnR.lt HO3.out k e).1)⟩
     case measure=>simp [intOf];(have:=HMS.out;omega)
    ·rw [if_neg hd] at hrow
     have HROW:=Lib.hid hrow
     have hcase:b=true∨(b=false∧decide (y > x)=false):=by
      cases b with
      | true=>exact .inl rfl
      | false=>exact .inr ⟨rfl,decide_eq_false fun h=>hd ⟨rfl,h⟩⟩
     clear hrow e hd
     rcases hcase with rfl | ⟨rfl,z3⟩
     ·skip
      go_wp2_with fail
      go_quiet (fail)
      obtain ⟨wq,hwq⟩ : ∃ z,z=wr.drewN nq:=⟨_,rfl⟩
      rw [← hwq]
      have HBQ:=Lib.hid (show Below W1.heap.size W1 wq by rw [hwq];exact below_drewN HB.out _)
      have HOQ:=Lib.hid (show OwnLr wq W1.heap.size (.slice A2 xn c2) X by rw [hwq];exact OwnR.then_ HO.out (below_drewN (Below.refl _ _) _))
      clear hwq c0 d0 d1 a0 a1
      obtain ⟨c0,d0,d1⟩:=HCQ.out wq HBQ.out
      obtain ⟨a0,a1⟩:=HCR.out wq HBQ.out
      go_wp2_with fail
      go_quiet (fail)
      obtain ⟨wp,hwp⟩ : ∃ z,z=wq.drewN nq:=⟨_,rfl⟩
      rw [← hwp]
      have HBP:=Lib.hid (show Below W1.heap.size W1 wp by rw [hwp];exact below_drewN HBQ.out _)
      have HOP:=Lib.hid (show OwnLr wp W1.heap.size (.slice A2 xn c2) X by rw [hwp];exact OwnR.then_ HOQ.out (below_drewN (Below.refl _ _) _))
      clear hwp c0 d0 d1 a0 a1
      obtain ⟨c0,d0,d1⟩:=HCQ.out wp HBP.out
      obtain ⟨a0,a1⟩:=HCR.out wp HBP.out
      have HS1:=Lib.hid (lit_ls wp y u)
      have HO1:=Lib.hid (OwnR.alloc HOP.out (.cells #[.int .u32 y,.int .u64 u] 151))
      have HB1:=Lib.hid (below_alloc HBP.out (.cells #[.int .u32 y,.int .u64 u] 151))
      go_wp2_with (first | (at_builtin;refine wpList_append_ls _ rfl _ _ rfl W1.heap.size _ _ _ X rfl HO1.out _ _ _ _ [(y,u)] rfl HS1.out (by omega) HB1.out.size ?_;intro A3 c3 w3 ho3 hg3) | fail)
      go_roundw
      case rel=>exact ⟨j + 1,A3,c3,X ++ [(y,u)],xn + 1,_,by go_num,rfl,rfl,by rw [HXN.out];simp,hlt,by omega,by rw [← HLAY.out,HROW.out];simp,ho3,HB1.out.grown hg3 HB1.out.size (fun k e=>(OwnR.lt HO1.out k e).1)⟩
      case measure=>simp [intOf];(have:=HMS.out;omega)
     ·have z4:decide (x<y)=false:=z3
      go_wp2_with fail
      go_quiet (fail)
      obtain ⟨wq,hwq⟩ : ∃ z,z=wr.drewN nq:=⟨_,rfl⟩
      rw [← hwq]
      have HBQ:=Lib.hid (show Below W1.heap.size W1 wq by rw [hwq];exact below_drewN HB.out _)
      have HOQ:=Lib.hid (show OwnLr wq W1.heap.size (.slice A2 xn c2) X by rw [hwq];exact OwnR.then_ HO.out (below_drewN (Below.refl _ _) _))
      clear hwq c0 d0 d1 a0 a1
      obtain ⟨c0,d0,d1⟩:=HCQ.out wq HBQ.out
      obtain ⟨a0,a1⟩:=HCR.out wq HBQ.out
      go_wp2_with fail
      go_quiet (fail)
      obtain ⟨wp,hwp⟩ : ∃ z,z=wq.drewN nq:=⟨_,rfl⟩
      rw [← hwp]
      have HBP:=Lib.hid (show Below W1.heap.size W1 wp by rw [hwp];exact below_drewN HBQ.out _)
      have HOP:=Lib.hid (show OwnLr wp W1.heap.size (.slice A2 xn c2) X by rw [hwp];exact OwnR.then_ HOQ.out (below_drewN (Below.refl _ _) _))
      clear hwp c0 d0 d1 a0 a1
      obtain ⟨c0,d0,d1⟩:=HCQ.out wp HBP.out
      obtain ⟨a0,a1⟩:=HCR.out wp HBP.out
      have HS1:=Lib.hid (lit_ls wp y u)
      have HO1:=Lib.hid (OwnR.alloc HOP.out (.cells #[.int .u32 y,.int .u64 u] 151))
      have HB1:=Lib.hid (below_alloc HBP.out (.cells #[.int .u32 y,.int .u64 u] 151))
      go_wp2_with (first | (at_builtin;refine wpList_append_ls _ rfl _ _ rfl W1.heap.size _ _ _ X rfl HO1.out _ _ _ _ [(y,u)] rfl HS1.out (by omega) HB1.out.size ?_;intro A3 c3 w3 ho3 hg3) | fail)
      go_roundw
      case rel=>exact ⟨j + 1,A3,c3,X ++ [(y,u)],xn + 1,_,by go_num,rfl,rfl,by rw [HXN.out];simp,hlt,by omega,by rw [← HLAY.out,HROW.out];simp,ho3,HB1.out.grown hg3 HB1.out.size (fun k e=>(OwnR.lt HO1.out k e).1)⟩
      case measure=>simp [intOf];(have:=HMS.out;omega)
  ·skip
   have hjn:j=n:=by omega
   have hdn:L.drop j=[]:=by rw [hjn,HN.out,List.drop_length]
   rw [hdn] at hlay
   have hput:=Pl.lay_put (x,v) L
   simp only at hput
   rw [hput] at hlay
   cases b with
   | true =>
    have HXE:=Lib.hid (show X=Pl.putM L x v by rw [← hlay];simp [Pl.layL])
    have HOE:=HO
    have HBE:=HB
    have HME:=HXN
    have HF:=Lib.hid (show RefL (World.setCell wr ⟨q,0,none⟩ (.slice A2 xn c2)) B q A2 c2 (Pl.putM L x v)∧Tn (fun i=>i=q) w (World.setCell wr ⟨q,0,none⟩ (.slice A2 xn c2)) from by
     have hq:∀ g,Value.ownBlock (.slice A2 xn c2)=some g→g≠q:=fun g hg=>by have:=(OwnR.lt HOE.out g hg).1;have:=HQ.out.1;have:=HB1w.out.size;omega
     have hlen:xn=(Pl.putM L x v).length:=by rw [← HXE.out];exact HME.out
     have hblk:=blk_set (i:=0) (HL.out.then_ HBE.out).blk (.slice A2 xn c2)
     have hrow:OwnLr (World.setCell wr ⟨q,0,none⟩ (.slice A2 xn c2)) B (.slice A2 xn c2) (Pl.putM L x v):=by
      have h1:=OwnR.tn HOE.out ((Tn.refl (fun i=>i=q) wr).set_ (p:=⟨q,0,none⟩) (Or.inr rfl) (.slice A2 xn c2)) (fun g hg e=>hq g hg e)
      rw [HXE.out] at h1
      exact OwnR.lower h1 (by have:=HQ.out.2;have:=HB1w.out.size;omega)
     refine ⟨⟨HL.out.q_,?_,?_,?_⟩,?_⟩
     ·rw [← hlen];exact hblk
     ·rw [← hlen];exact hrow
     ·rw [← hlen];exact hq
     ·exact ((Tn.of (fun i=>i=q) HB1w.out).trans (T':=fun i=>i=q) (Tn.of _ HBE.out) (fun _ _ x=>x)).set_ (p:=⟨q,0,none⟩) (Or.inr rfl) _)
    have f2:=frozen_of_row wr q 0 _ _ (HL.out.then_ HBE.out).blk
    clear hdn hput hlay hxn ho hb
    go_wp2_with fail
    exact ⟨rfl,_,results_none (by kernel_rfl) _ _ _,_,_,rfl,HF.out.1,HF.out.2⟩
   | false =>
    have HXE:=Lib.hid (show X ++ [(x,v)]=Pl.putM L x v by rw [← hlay];rfl)
    have HS1:=Lib.hid (lit_ls wr x v)
    have HO1:=Lib.hid (OwnR.alloc HO.out (.cells #[.int .u32 x,.int .u64 v] 151))
    have HB1:=Lib.hid (below_alloc HB.out (.cells #[.int .u32 x,.int .u64 v] 151))
    clear hdn hput hlay hxn ho hb
    go_wp2_with (first | (at_builtin;refine wpList_append_ls _ rfl _ _ rfl W1.heap.size _ _ _ X rfl HO1.out _ _ _ _ [(x,v)] rfl HS1.out (by omega) HB1.out.size ?_;intro A3 c3 w3 ho3 hg3;have HOE:=Lib.hid ho3;have HBE:=Lib.hid (HB1.out.grown hg3 HB1.out.size (fun k e=>(OwnR.lt HO1.out k e).1));have HME:=Lib.hid (show xn + 1=(X ++ [(x,v)]).length by rw [HXN.out];simp);obtain ⟨c0,d0,d1⟩:=HCQ.out w3 HBE.out;have f2:=frozen_of_row w3 q 0 _ _ (HL.out.then_ HBE.out).blk;clear ho3 hg3) | fail)
    have HF:=Lib.hid (show RefL (World.setCell w3 ⟨q,0,none⟩ (.slice A3 (xn+1) c3)) B q A3 c3 (Pl.putM L x v)∧Tn (fun i=>i=q) w (World.setCell w3 ⟨q,0,none⟩ (.slice A3 (xn+1) c3)) from by
     have hq:∀ g,Value.ownBlock (.slice A3 (xn+1) c3)=some g→g≠q:=fun g hg=>by have:=(OwnR.lt HOE.out g hg).1;have:=HQ.out.1;have:=HB1w.out.size;omega
     have hlen:(xn+1)=(Pl.putM L x v).length:=by rw [← HXE.out];exact HME.out
     have hblk:=blk_set (i:=0) (HL.out.then_ HBE.out).blk (.slice A3 (xn+1) c3)
     have hrow:OwnLr (World.setCell w3 ⟨q,0,none⟩ (.slice A3 (xn+1) c3)) B (.slice A3 (xn+1) c3) (Pl.putM L x v):=by
      have h1:=OwnR.tn HOE.out ((Tn.refl (fun i=>i=q) w3).set_ (p:=⟨q,0,none⟩) (Or.inr rfl) (.slice A3 (xn+1) c3)) (fun g hg e=>hq g hg e)
      rw [HXE.out] at h1
      exact OwnR.lower h1 (by have:=HQ.out.2;have:=HB1w.out.size;omega)
     refine ⟨⟨HL.out.q_,?_,?_,?_⟩,?_⟩
     ·rw [← hlen];exact hblk
     ·rw [← hlen];exact hrow
     ·rw [← hlen];exact hq
     ·exact ((Tn.of (fun i=>i=q) HB1w.out).trans (T':=fun i=>i=q) (Tn.of _ HBE.out) (fun _ _ x=>x)).set_ (p:=⟨q,0,none⟩) (Or.inr rfl) _)
    have f2:=frozen_of_row w3 q 0 _ _ (HL.out.then_ HBE.out).blk
    exact ⟨rfl,_,results_none (by kernel_rfl) _ _ _,_,_,rfl,HF.out.1,HF.out.2⟩
open Go.RowKit
theorem RefL.laid {w w5:World} {B q c m c5:Nat} {A A5:Option Addr} {L X:Pl.Mks} (h:RefL w B q A c L) (hB:B≤w.heap.size) (ho:OwnLr w5 w.heap.size (.slice A5 m c5) X) (hb:Below w.heap.size w w5) (hm:m=X.length) :
  RefL (w5.setCell ⟨q,0,none⟩ (.slice A5 m c5)) B q A5 c5 X∧Tn (fun i=>i=q) w (w5.setCell ⟨q,0,none⟩ (.slice A5 m c5)):=by
 have hq:∀ g,Value.ownBlock (.slice A5 m c5)=some g→g≠q:=fun g hg=>by have:=(OwnR.lt ho g hg).1;have:=h.lt;omega
 have hblk:=blk_set (i:=0) (h.then_ hb).blk (.slice A5 m c5)
 have h1:=OwnR.tn ho ((Tn.refl (fun i=>i=q) w5).set_ (p:=⟨q,0,none⟩) (Or.inr rfl) (.slice A5 m c5)) (fun g hg e=>hq g hg e)
 refine ⟨⟨h.q_,?_,?_,?_⟩,(Tn.of (fun i=>i=q) hb).set_ (p:=⟨q,0,none⟩) (Or.inr rfl) _⟩
 ·rw [← hm];exact hblk
 ·rw [← hm];exact OwnR.lower h1 hB
 ·rw [← hm];exact hq
def Lp.newL (l:Pl.Mks):Int:=if (Pl.makeM l []).1≠0 then (Pl.makeM l []).1 else if 16<l.length then 7 else 0
theorem make_at {l:Pl.Mks} {j:Nat} (hj:j<l.length) (M:Pl.Mks):Pl.makeM (l.drop j) M=if (Pl.getM M (l.getD j default).1).isSome=true∨1099511627840<(l.getD j default).2 then (1,M) else Pl.makeM (l.drop (j + 1)) (Pl.putM M (l.getD j default).1 (l.getD j default).2):=by
 have e:l.drop j=l.getD j default :: l.drop (j + 1):=by
  rw [List.drop_eq_getElem_cons hj,List.getD_eq_getElem?_getD,List.getElem?_eq_getElem hj]
  rfl
 rw [e]
 rfl
def RetNw (w:World) (l:Pl.Mks) (e:Ending) (w':World):Prop :=
 (Lp.newL l=0→∃ q A c,e=.returned (.tuple #[.pointer (some ⟨q,0,none⟩),.int .i64 0])∧RefL w' w.heap.size q A c (Pl.makeM l []).2∧(Pl.makeM l []).2.length≤l.length)∧(Lp.newL l≠0→e=.returned (.tuple #[.pointer none,.int .i64 (Lp.newL l)]))∧Below w.heap.size w w'
theorem RetNw.bad {w w':World} {l M:Pl.Mks} (h:Pl.makeM l []=(1,M)) (hb:Below w.heap.size w w'):RetNw w l (.returned (.tuple #[.pointer none,.int .i64 1])) w':=by
 have e:Lp.newL l=1:=by unfold Lp.newL;rw [h];exact if_pos (by simp)
 refine ⟨fun h0=>?_,fun _=>by rw [e],hb⟩
 rw [e] at h0
 exact absurd h0 (by decide)
theorem RetNw.ok {w w':World} {l M:Pl.Mks} {q c:Nat} {A:Option Addr} (h:Pl.makeM l []=(0,M)) (hl:¬ 16<l.length) (hr:RefL w' w.heap.size q A c M) (hm:M.length≤l.length) (hb:Below w.heap.size w w'):RetNw w l (.returned (.tuple #[.pointer (some ⟨q,0,none⟩),.int .i64 0])) w':=by
 have e:Lp.newL l=0:=by unfold Lp.newL;rw [h,if_neg (by simp),if_neg hl]
 exact ⟨fun _=>⟨q,A,c,rfl,by rw [h];exact hr,by rw [h];exact hm⟩,fun h0=>absurd e h0,hb⟩
end Go.Proofs.YtlgdcelgkiipaaaGreat.Ls
