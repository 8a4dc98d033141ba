/-
  Marks in memory: their block, their map; Marks.none, New, Long, Get, Set, Drop. Conditions: those that each states.
  Marks.New, Long, Get, Set, Drop. Conditions: those that each states.
  A map of places that is ranged over while each place is laid, turned, into a new map: what the new map reads as, as a function of what is still to come. Conditions: those that each states.
  Marks.Go: rows that fit (the length is what the row leaves, each place goes by it), rows that do not (nothing turns). Conditions: rows of at most a thousand units, texts of at most a million code points; the row lies apart from the marks.
  The document's own leases in memory: at, Live, Which, Same, lay. Conditions: those that each states.
-/
import Derived.Test.YtlgdcelgkiipaaaGreatOc11
import Derived.Test.YtlgdcelgkiipaaaGreatOc08
import Derived.Test.YtlgdcelgkiipaaaGreatOc12
import Derived.Test.YtlgdcelgkiipaaaGreatOc03
import Derived.BigQuiet
import Derived.Lib.Hide
set_option maxRecDepth 100000
set_option linter.unusedVariables false
namespace Go.Proofs.YtlgdcelgkiipaaaGreat
open Go.RowKit
open Pl (Un)
theorem keyedC:Maps.Keyed Tryz.prog 28:=Maps.int_keyed Tryz.underlying28
theorem wf_u32 {c:Int} (h:0≤c∧c<4294967296):(Lit.int .u32 c).wf=true:=by
 have e1:IntKind.u32.min=0:=by decide
 have e2:IntKind.u32.max=4294967295:=by decide
 simp only [Lit.wf,e1,e2,Bool.and_eq_true,decide_eq_true_eq]
 omega
theorem wf_i64 {c:Int} (h:0≤c∧c<9223372036854775808):(Lit.int .i64 c).wf=true:=by
 have e1:IntKind.i64.min=-9223372036854775808:=by decide
 have e2:IntKind.i64.max=9223372036854775807:=by decide
 simp only [Lit.wf,e1,e2,Bool.and_eq_true,decide_eq_true_eq]
 omega
theorem keyC {c:Int} (h:0≤c∧c<4294967296):keyOf Tryz.prog 28 (.int .u32 c)=some (.int .u32 c):=Maps.keyOf_int_mk Tryz.underlying28 (wf_u32 h)
theorem readP {v:Int} (h:0≤v∧v<9223372036854775808):plainElem (H:=Unit) Tryz.prog 3 (.int .i64 v)=some (.lit (.int .i64 v),[]):=plainElem_int Tryz.underlying3 (wf_i64 h)
namespace Pl
theorem rising_len:∀ {M:Mks} {lo hi:Int},Rising M→(∀ p ∈ M,lo≤p.1∧p.1<hi)→lo≤hi→(M.length:Int)≤hi - lo
 | [],_,_,_,_,h=>by simpa using h
 | x :: r,lo,hi,hr,hb,h=>by
  have h1:=List.pairwise_cons.1 hr
  have hx:=hb x (List.mem_cons_self ..)
  have:=rising_len (M:=r) (lo:=x.1 + 1) (hi:=hi) h1.2 (fun p hp=>⟨by have:=h1.1 p hp;omega,(hb p (List.mem_cons_of_mem _ hp)).2⟩) (by omega)
  rw [List.length_cons]
  omega
structure MkOk (N:Int) (M:Mks):Prop where
 up:Rising M
 key:∀ q ∈ M,0≤q.1∧q.1<4294967296
 place:∀ q ∈ M,0≤q.2∧q.2≤N
 long:0≤N∧N<9223372036854775808
theorem MkOk.len {N:Int} {M:Mks} (h:MkOk N M):M.length<maxLen:=by
 have:=rising_len h.up h.key (by omega)
 unfold maxLen
 omega
theorem MkOk.put {N:Int} {M:Mks} (h:MkOk N M) {c v:Int} (hc:0≤c∧c<4294967296) (hv:0≤v∧v≤N):MkOk N (putM M c v) :=
 ⟨rising_put h.up c v,fun q hq=>by
  unfold putM at hq
  rcases mem_ins.1 hq with rfl | hq
  ·exact hc
  ·exact h.key q (mem_del.1 hq).1,fun q hq=>by
  unfold putM at hq
  rcases mem_ins.1 hq with rfl | hq
  ·exact hv
  ·exact h.place q (mem_del.1 hq).1,h.long⟩
theorem MkOk.del {N:Int} {M:Mks} (h:MkOk N M) (c:Int):MkOk N (delM M c) :=
 ⟨rising_del h.up c,fun q hq=>h.key q (mem_del.1 hq).1,fun q hq=>h.place q (mem_del.1 hq).1,h.long⟩
end Pl
theorem own_tight {w:World} {b n:Nat} {M:Pl.Mks} (h:w.ownsMap Tryz.prog 28 (plainElem (H:=Unit) Tryz.prog 3) b n (dat M)):w.ownsMap Tryz.prog 28 (plainElem (H:=Unit) Tryz.prog 3) b M.length (dat M):=by
 obtain ⟨es,clock,hb,F,hs,hD⟩:=h
 refine ⟨es,clock,hb,F,?_,hD⟩
 have e:=hD
 unfold dat at e
 rw [DataW.map.injEq] at e
 have:=congrArg List.length e
 rw [List.length_map,length_sorted,List.length_map] at this
 simp only [Array.length_toList] at this
 omega
structure MarksW (w:World) (p b:Nat) (N:Int) (M:Pl.Mks):Prop where
 blk:w.heap[p]?=some (.cells #[.int .i64 N,.map (some b)] 175 (0,0))
 own:w.ownsMap Tryz.prog 28 (plainElem (H:=Unit) Tryz.prog 3) b M.length (dat M)
 ok:Pl.MkOk N M
section
variable {w w':World} {p b:Nat} {T:Nat→Prop} {N:Int} {M:Pl.Mks}
theorem MarksW.lt (h:MarksW w p b N M):p<w.heap.size:=lt_of_block h.blk
theorem MarksW.ne (h:MarksW w p b N M):p≠b:=by
 intro e
 obtain ⟨es,clock,hb,_⟩:=h.own
 rw [← e,h.blk] at hb
 cases hb
theorem own_tn (h:w.ownsMap Tryz.prog 28 (plainElem (H:=Unit) Tryz.prog 3) b M.length (dat M)) (ht:Tn T w w') (hb:¬ T b):w'.ownsMap Tryz.prog 28 (plainElem (H:=Unit) Tryz.prog 3) b M.length (dat M):=by
 obtain ⟨es,clock,h1,h2⟩:=h
 exact ⟨es,clock,ht.old h1 hb,h2⟩
theorem MarksW.tn (h:MarksW w p b N M) (ht:Tn T w w') (hp:¬ T p) (hb:¬ T b):MarksW w' p b N M:=⟨ht.old h.blk hp,own_tn h.own ht hb,h.ok⟩
theorem MarksW.then_ (h:MarksW w p b N M) (hb:Below w.heap.size w w'):MarksW w' p b N M:=h.tn (Tn.of (fun _=>False) hb) (fun h=>h) (fun h=>h)
theorem MarksW.cells (h:MarksW w p b N M):w.cell? ⟨p,0,none⟩=some (.int .i64 N)∧w.cell? ⟨p,1,none⟩=some (.map (some b)):=⟨cell0 (r:=[.map (some b)]) h.blk,cell1 (r:=[]) h.blk⟩
theorem MarksW.turned (h:MarksW w p b N M) (hm:w.mapTurned w' b):Tn (fun i=>i=b) w w':=by
 have:=h.lt
 obtain ⟨es,clock,es',clock',h1,rfl⟩:=hm
 exact ⟨rfl,rfl,rfl,by simp [Go.ChangeMaps.setBlock],fun i _ hi=>Go.ChangeMaps.heap_setBlock_other h1 _ hi⟩
end
theorem eql_map_some (b:Nat) (w:World):(binOp .eql 173 (.map (some b)) (.map none)).run Tryz.prog w=.ok (.bool false) w:=by kernel_rfl
set_option maxHeartbeats 400000 in
theorem none_marks {w:World} {p b:Nat} {N:Int} {M:Pl.Mks} (h:MarksW w p b N M) :
  Calls Tryz.prog 142 #[.pointer (some ⟨p,0,none⟩)] w fun e w'=>e=.returned (.bool false)∧w'=w:=by
 obtain ⟨c0,c1⟩:=h.cells
 have q:=eql_map_some b
 clear h
 go_enter Tryz.func142,Tryz.ntmps142
 go_wp2_with fail
 go_ret
 exact ⟨rfl,rfl⟩
open Go.RowKit
open Pl (Un)
theorem made_map (w:World) (N:Int) (hN:0≤N∧N<9223372036854775808) :
  MarksW ((w.alloc (.map #[] 0)).alloc (.cells #[.int .i64 N,.map (some w.heap.size)] 175)) (w.heap.size + 1) w.heap.size N [] :=
 ⟨heap_new (by simp),(World.ownsMap_made w _ _ _).alloc _,Pl.rising_nil,by simp,by simp,hN⟩
set_option maxHeartbeats 400000 in
theorem newM_any (N:Int) (w:World) (hN:0≤N∧N<9223372036854775808) :
  Calls Tryz.prog 43 #[.int .i64 N] w fun e w'=>e=.returned (.tuple #[.pointer (some ⟨w.heap.size + 1,0,none⟩),.int .i64 0])∧MarksW w' (w.heap.size + 1) w.heap.size N []∧Below w.heap.size w w':=by
 have HM:=Lib.hid (made_map w N hN)
 have hmm:=@run_makeMap Tryz.prog
 have z2:decide (N<0)=false:=decide_eq_false (by omega)
 clear hN
 go_enter Tryz.func43,Tryz.ntmps43
 go_wp2_with fail
 go_returns
 exact ⟨rfl,HM.out,below_alloc (below_box _ _) _⟩
def gotM (M:Pl.Mks) (c:Int):Value:=.tuple #[.int .i64 ((Pl.getM M c).getD 0),.bool (Pl.getM M c).isSome]
theorem lookM {w:World} {p b:Nat} {N:Int} {M:Pl.Mks} (h:MarksW w p b N M) {c:Int} (hc:0≤c∧c<4294967296) :
  (Instr.lookup 173 (.map (some b)) (.int .u32 c) true).run Tryz.prog w=.ok (gotM M c) w:=by
 obtain ⟨v,ps,hrun,hv⟩:=h.own.look_ok keyedC Tryz.underlying173 (Tryz.zeroValue3 w) (plainElem_int Tryz.underlying3 (wf_i64 (c:=0) (by decide))) (keyC hc)
 obtain ⟨c',rfl,hc',hw⟩:=plainElem_int_inv Tryz.underlying3 hv
 rw [hrun,has_dat]
 rw [at_dat] at hc'
 have e:=congrArg Prod.fst hc'
 simp only at e
 unfold gotM
 cases hg:Pl.getM M c with
 | none=>rw [hg] at e;simp at e;rw [e];rfl
 | some z=>rw [hg] at e;simp at e;rw [e];rfl
set_option maxHeartbeats 400000 in
theorem getM_any {w:World} {p b:Nat} {N:Int} {M:Pl.Mks} (h:MarksW w p b N M) {c:Int} (hc:0≤c∧c<4294967296) :
  Calls Tryz.prog 176 #[.pointer (some ⟨p,0,none⟩),.int .u32 c] w fun e w'=>e=.returned (gotM M c)∧w'=w:=by
 have HN:=Lib.hid (none_marks h)
 have HL:=lookM h hc
 unfold gotM at HL
 obtain ⟨c0,c1⟩:=h.cells
 clear h hc
 go_enter Tryz.func176,Tryz.ntmps176
 go_wp2_with fail
 refine HN.out.mono ?_
 rintro e w' ⟨rfl,rfl⟩
 go_wp2_with fail
 go_returns
 exact ⟨rfl,rfl⟩
theorem storeM {w:World} {p b:Nat} {N:Int} {M:Pl.Mks} (h:MarksW w p b N M) {c v:Int} (hc:0≤c∧c<4294967296) (hv:0≤v∧v≤N) :
  ∃ w',(Instr.mapUpdate 173 (.map (some b)) (.int .u32 c) (.int .i64 v)).run Tryz.prog w=.ok () w'∧MarksW w' p b N (Pl.putM M c v)∧Tn (fun i=>i=b) w w':=by
 have hN:=h.ok.long
 obtain ⟨w',hrun,r1,r2⟩:=h.own.store keyedC Tryz.underlying173 h.ok.len (keyC hc) (readP (v:=v) (by omega))
 have ht:=h.turned r2
 rw [put_dat] at r1
 exact ⟨w',hrun,⟨ht.old h.blk h.ne,own_tight r1,h.ok.put hc hv⟩,ht⟩
set_option maxHeartbeats 400000 in
theorem setM_any {w:World} {p b:Nat} {N:Int} {M:Pl.Mks} (h:MarksW w p b N M) {c v:Int} (hc:0≤c∧c<4294967296) (hv:0≤v∧v≤N) :
  Calls Tryz.prog 65 #[.pointer (some ⟨p,0,none⟩),.int .u32 c,.int .i64 v] w fun e w'=>e=.returned (.int .i64 0)∧MarksW w' p b N (Pl.putM M c v)∧Tn (fun i=>i=b) w w':=by
 have HN:=Lib.hid (none_marks h)
 obtain ⟨w1,HS,h1,h2⟩:=storeM h hc hv
 obtain ⟨c0,c1⟩:=h.cells
 have z0:decide (v<0)=false:=decide_eq_false (by omega)
 have z1:decide (v > N)=false:=decide_eq_false (by omega)
 have z2:decide (N<v)=false:=decide_eq_false (by omega)
 clear h hc hv
 go_enter Tryz.func65,Tryz.ntmps65
 go_wp2_with fail
 refine HN.out.mono ?_
 rintro e w' ⟨rfl,rfl⟩
 go_wp2_with fail
 go_ret
 exact ⟨rfl,h1,h2⟩
set_option maxHeartbeats 400000 in
theorem dropM_any {w:World} {p b:Nat} {N:Int} {M:Pl.Mks} (h:MarksW w p b N M) {c:Int} (hc:0≤c∧c<4294967296) (hg:(Pl.getM M c).isSome=true) :
  Calls Tryz.prog 113 #[.pointer (some ⟨p,0,none⟩),.int .u32 c] w fun e w'=>e=.returned (.int .i64 0)∧MarksW w' p b N (Pl.delM M c)∧Tn (fun i=>i=b) w w':=by
 have HN:=Lib.hid (none_marks h)
 have HL:=lookM h hc
 unfold gotM at HL
 rw [hg] at HL
 have HD:=h.own.lt
 obtain ⟨c0,c1⟩:=h.cells
 go_enter Tryz.func113,Tryz.ntmps113
 go_wp2_with fail
 refine HN.out.mono ?_
 rintro e w' ⟨rfl,rfl⟩
 go_wp2_with (at_delete;refine wpList_delete_own _ rfl _ _ 173 28 rfl 3 keyedC Tryz.underlying173 _ _ _ _ rfl h.own _ _ rfl (keyC hc) ?_;intro w1 hown1 hturn1)
 go_ret
 rw [del_dat] at hown1
 have ht:=h.turned hturn1
 exact ⟨rfl,⟨ht.old h.blk h.ne,own_tight hown1,h.ok.del c⟩,ht⟩
set_option maxHeartbeats 400000 in
theorem dropM_no {w:World} {p b:Nat} {N:Int} {M:Pl.Mks} (h:MarksW w p b N M) {c:Int} (hc:0≤c∧c<4294967296) (hg:(Pl.getM M c).isSome=false) :
  Calls Tryz.prog 113 #[.pointer (some ⟨p,0,none⟩),.int .u32 c] w fun e w'=>e=.returned (.int .i64 6)∧w'=w:=by
 have HN:=Lib.hid (none_marks h)
 have HL:=lookM h hc
 unfold gotM at HL
 rw [hg] at HL
 obtain ⟨c0,c1⟩:=h.cells
 clear h
 go_enter Tryz.func113,Tryz.ntmps113
 go_wp2_with fail
 refine HN.out.mono ?_
 rintro e w' ⟨rfl,rfl⟩
 go_wp2_with fail
 go_ret
 exact ⟨rfl,rfl⟩
open Go.RowKit
open Pl (Un)
namespace Pl
def doneM (f:Int→Int) (left:Lit→Bool) (M:Mks):Mks:=goM f (M.filter fun q=>!left (.int .u32 q.1))
theorem rising_done {M:Mks} (h:Rising M) (f:Int→Int) (left:Lit→Bool):Rising (doneM f left M):=rising_go (List.Pairwise.filter _ h) f
theorem len_done (f:Int→Int) (left:Lit→Bool) (M:Mks):(doneM f left M).length≤M.length:=by
 unfold doneM goM
 rw [List.length_map]
 exact List.length_filter_le _ _
theorem get_done {M:Mks} (h:Rising M) (f:Int→Int) (left:Lit→Bool) (d:Int):getM (doneM f left M) d=if left (.int .u32 d) then none else (getM M d).map f:=by
 refine opt_ext fun z=>?_
 rw [get_iff (rising_done h f left)]
 unfold doneM goM
 rw [List.mem_map]
 constructor
 ·rintro ⟨⟨a,v⟩,hm,e⟩
  cases e
  obtain ⟨h1,h2⟩:=List.mem_filter.1 hm
  have h3:left (.int .u32 a)=false:=by simpa using h2
  rw [h3,(get_iff h).2 h1]
  rfl
 ·intro h1
  by_cases hl:left (.int .u32 d)=true
  ·rw [if_pos hl] at h1
   cases h1
  ·rw [if_neg hl,Option.map_eq_some_iff] at h1
   obtain ⟨v,hv,rfl⟩:=h1
   exact ⟨(d,v),List.mem_filter.2 ⟨(get_iff h).1 hv,by simpa using hl⟩,rfl⟩
theorem done_start {M:Mks} (h:Rising M) (f:Int→Int):doneM f (Maps.has (dat M:DataW Unit)) M=[]:=by
 refine mks_ext (rising_done h f _) rising_nil fun d=>?_
 rw [get_done h,has_dat]
 cases getM M d <;> rfl
theorem done_step {M:Mks} (h:Rising M) (f:Int→Int) {left:Lit→Bool} {x c:Int} (hg:getM M x=some c):putM (doneM f left M) x (f c)=doneM f (fun z=>left z && !z.sameKey (.int .u32 x)) M:=by
 refine mks_ext (rising_put (rising_done h f left) x _) (rising_done h f _) fun d=>?_
 rw [get_put (rising_done h f left),get_done h,get_done h,same_u32]
 by_cases e:d=x
 ·subst e
  rw [if_pos rfl,hg]
  simp
 ·rw [if_neg e]
  have e2:(d == x)=false:=by simpa using e
  rw [e2]
  simp
theorem done_end {M:Mks} (f:Int→Int) {left:Lit→Bool} (hl:∀ k,left k=false):doneM f left M=goM f M:=by
 unfold doneM
 rw [List.filter_eq_self.2 fun q _=>by rw [hl];rfl]
theorem MkOk.go {N N1:Int} {M:Mks} {f:Int→Int} (h:MkOk N M) (hf:∀ v,0≤v→v≤N→0≤f v∧f v≤N1) (hN:0≤N1∧N1<9223372036854775808):MkOk N1 (goM f M) :=
 ⟨rising_go h.up f,fun q hq=>by
  obtain ⟨y,hy,rfl⟩:=List.mem_map.1 hq
  exact h.key y hy,fun q hq=>by
  obtain ⟨y,hy,rfl⟩:=List.mem_map.1 hq
  exact hf _ (h.place y hy).1 (h.place y hy).2,hN⟩
end Pl
theorem at_get {M:Pl.Mks} {x c:Int} (h:∀ zd,(dat M:DataW Unit).atKey (.int .u32 x) zd=.lit (.int .i64 c)):Pl.getM M x=some c:=by
 have h1:=h (.agg [])
 rw [at_dat] at h1
 cases hg:Pl.getM M x with
 | none=>rw [hg] at h1;simp at h1
 | some v =>
  rw [hg] at h1
  simp at h1
  rw [h1]
theorem ranges_tn {w w':World} {b r n cnt:Nat} {M:Pl.Mks} {left:Lit→Bool} {T:Nat→Prop} (h:w.ranges Tryz.prog 28 (plainElem (H:=Unit) Tryz.prog 3) b r n (dat M) left cnt) (ht:Tn T w w') (hb:¬ T b) (hr:¬ T r) :
  w'.ranges Tryz.prog 28 (plainElem (H:=Unit) Tryz.prog 3) b r n (dat M) left cnt:=by
 obtain ⟨es,clock,since,seen,c0,h1,F,hs,hD,h2,rest⟩:=h
 exact ⟨es,clock,since,seen,c0,ht.old h1 hb,F,hs,hD,ht.old h2 hr,rest⟩
theorem turned_tn {w w':World} {b:Nat} (hm:w.mapTurned w' b):Tn (fun i=>i=b) w w':=by
 obtain ⟨es,clock,es',clock',h1,rfl⟩:=hm
 exact ⟨rfl,rfl,rfl,by simp [Go.ChangeMaps.setBlock],fun i _ hi=>Go.ChangeMaps.heap_setBlock_other h1 _ hi⟩
theorem stepM {w:World} {b:Nat} {M:Pl.Mks} {f:Int→Int} {left left0:Lit→Bool} {x c:Int}
  (h:w.ownsMap Tryz.prog 28 (plainElem (H:=Unit) Tryz.prog 3) b (Pl.doneM f left0 M).length (dat (Pl.doneM f left0 M))) (hM:Pl.Rising M) (hn:M.length<maxLen) (hx:0≤x∧x<4294967296) (hg:Pl.getM M x=some c) (hv:0≤f c∧f c<9223372036854775808)
  (hl:left=fun z=>left0 z && !z.sameKey (.int .u32 x)) :
  ∃ w',(Instr.mapUpdate 173 (.map (some b)) (.int .u32 x) (.int .i64 (f c))).run Tryz.prog w=.ok () w'∧w'.ownsMap Tryz.prog 28 (plainElem (H:=Unit) Tryz.prog 3) b (Pl.doneM f left M).length (dat (Pl.doneM f left M))∧Tn (fun i=>i=b) w w':=by
 obtain ⟨w',hrun,r1,r2⟩:=h.store keyedC Tryz.underlying173 (Nat.lt_of_le_of_lt (Pl.len_done f left0 M) hn) (keyC hx) (readP hv)
 rw [put_dat,Pl.done_step hM f hg,← hl] at r1
 exact ⟨w',hrun,own_tight r1,turned_tn r2⟩
theorem MarksW.relaid {w:World} {p b b2:Nat} {N N1:Int} {M:Pl.Mks} (h:MarksW w p b N M) (h2:p≠b2) {M2:Pl.Mks} (ho:w.ownsMap Tryz.prog 28 (plainElem (H:=Unit) Tryz.prog 3) b2 M2.length (dat M2)) (hok:Pl.MkOk N1 M2) :
  MarksW ((w.setCell ⟨p,0,none⟩ (.int .i64 N1)).setCell ⟨p,1,none⟩ (.map (some b2))) p b2 N1 M2∧Tn (fun i=>i=p) w ((w.setCell ⟨p,0,none⟩ (.int .i64 N1)).setCell ⟨p,1,none⟩ (.map (some b2))) :=
 ⟨⟨blk_set (i:=1) (blk_set (i:=0) h.blk _) _,(ho.setCell (fun e=>h2 e.symm) _).setCell (fun e=>h2 e.symm) _,hok⟩,((Tn.refl (fun i=>i=p) w).set_ (p:=⟨p,0,none⟩) (Or.inr rfl) _).set_ (p:=⟨p,1,none⟩) (Or.inr rfl) _⟩
open Go.RowKit
open Pl (Un)
theorem make_sized (n:Nat) (w:World):(Instr.makeMap 173 (some (.int .i64 (n:Int)))).run Tryz.prog w=.ok (.map (some w.heap.size)) (w.alloc (.map #[] 0)):=by
 simp [Instr.makeMap,run_underlying Tryz.underlying173,go_sem]
set_option maxHeartbeats 1000000 in
theorem goM_ok {w:World} {p b:Nat} {N N1:Int} {M:Pl.Mks} (h:MarksW w p b N M) {B:Option Addr} {m d:Nat} {l:List Un} (hu:Uns w w.heap.size B m d l) (hm:m≤1000) (hN:N≤1000000) (hlo:Pl.longL l N=(N1,0)) (hN1:0≤N1∧N1<9223372036854775808) :
  Calls Tryz.prog 157 #[.pointer (some ⟨p,0,none⟩),.slice B m d] w fun e w'=>∃ b',e=.returned (.int .i64 0)∧w.heap.size≤b'∧MarksW w' p b' N1 (Pl.goM (fun v=>Pl.placeR v l) M)∧Tn (fun i=>i=p) w w':=by
 have HN:=Lib.hid (none_marks h)
 have HLO:=Lib.hid (long_any B m d l N w hu hm hN)
 rw [hlo] at HLO
 simp only at HLO
 have HH:=Lib.hid h
 have HU:=Lib.hid hu
 have hlen:=hu.len
 obtain ⟨f,hf⟩ : ∃ f:Int→Int,f=fun v=>Pl.placeR v l:=⟨_,rfl⟩
 have HK:=Lib.hid (show ∀ v,0≤v→v≤N→0≤f v∧f v≤N1 from fun v h0 h1=>by
  rw [hf]
  have:=Pl.placeR_keeps hlo h0 (Int.le_refl v) h1 (by omega)
  exact ⟨this.1,this.2.2⟩)
 have HF:=Lib.hid hf
 have HN1:=Lib.hid hN1
 obtain ⟨c0,c1⟩:=h.cells
 rw [← hf]
 have hms:=make_sized M.length
 clear h hu hlo hN1 hlen hf
 go_enter Tryz.func157,Tryz.ntmps157
 go_wp2_with fail
 refine HN.out.mono ?_
 rintro e w' ⟨rfl,hw⟩
 rw [hw]
 clear hw w'
 go_wp2_with fail
 refine HLO.out.mono ?_
 rintro e w2 ⟨rfl,hb⟩
 have H2:=Lib.hid (HH.out.then_ hb)
 have HB2:=Lib.hid hb
 clear hb c0 c1
 obtain ⟨c2,c3⟩:=H2.out.cells
 have hln:=fun ty=>H2.out.own.len Tryz.underlying173 ty
 simp only [size_dat] at hln
 obtain ⟨V,hV⟩ : ∃ V,V=w2.alloc (.map #[] 0):=⟨_,rfl⟩
 obtain ⟨b2,hb2⟩ : ∃ b2,b2=w2.heap.size:=⟨_,rfl⟩
 have hVB:Below w2.heap.size w2 V:=by rw [hV];exact below_box _ _
 have HVB:=Lib.hid hVB
 have hVs:V.heap.size=b2 + 1:=by rw [hV,hb2];simp
 have HVO:=Lib.hid (show V.ownsMap Tryz.prog 28 (plainElem (H:=Unit) Tryz.prog 3) b2 ([]:Pl.Mks).length (dat []) by rw [hV,hb2];exact World.ownsMap_made w2 _ _ _)
 have HV1:=Lib.hid (H2.out.then_ hVB)
 have c4:V.cell? ⟨p,1,none⟩=some (.map (some b)):=HV1.out.cells.2
 have hv2:=HV1.out.own
 have hbne:b≠b2:=by have:=H2.out.own.lt;omega
 have hpne:p≠b2:=by have:=H2.out.lt;omega
 have HNE:=Lib.hid (show b≠b2∧p≠b2∧V.heap.size=b2 + 1∧w.heap.size≤b2 from ⟨hbne,hpne,hVs,by rw [hb2];exact HB2.out.size⟩)
 have HV:=Lib.hid hV
 have HBB:=Lib.hid hb2
 clear hV hVB hVs hbne hpne hb2
 rw [HV.out] at hv2 c4
 go_wp2_with (first | (at_range;refine wpList_range_own _ rfl _ 173 rfl 28 3 keyedC Tryz.underlying173 _ b _ _ rfl hv2 ?_;intro w0 hrg0 hg0 hs0) | fail)
 go_frame
 rw [← HV.out] at hrg0 hg0 hs0 ⊢
 rw [← HBB.out]
 have HR0:=Lib.hid hrg0
 have HG0:=Lib.hid hg0
 clear hrg0 hg0 hv2 c2 c3 c4 hs0 hln hms
 go_loopw [8,9] (fun _ _ wr=>∃ (left:Lit→Bool) (cnt:Nat),wr.ranges Tryz.prog 28 (plainElem (H:=Unit) Tryz.prog 3) b V.heap.size M.length (dat M) left cnt∧wr.ownsMap Tryz.prog 28 (plainElem (H:=Unit) Tryz.prog 3) b2 (Pl.doneM f left M).length (dat (Pl.doneM f left M))∧Tn (fun i=>i=b2) V wr)
  (fun _ _ wr=>wr.rangeLeft b V.heap.size)
 case atStart=>exact ⟨_,_,HR0.out,by rw [Pl.done_start HH.out.ok.up f];exact HVO.out.kept HG0.out (by simp),(Tn.refl (fun i=>i=b2) V).grown HG0.out (fun k hk=>by cases hk)⟩
 case round =>
  obtain ⟨left,cnt,hrg,how,hgw⟩:=hrel
  have HRG:=Lib.hid hrg
  have HOW:=Lib.hid how
  have HGW:=Lib.hid hgw
  clear hrg how hgw
  go_wp2_with (first | (at_next;refine wpList_next_ranges_ii _ rfl _ rfl 28 3 .u32 .i64 keyedC Tryz.underlying28 Tryz.underlying3 b V.heap.size M.length _ _ _ rfl HRG.out ?_ ?_) | fail)
  ·intro _ hl0
   have HM:=Lib.hid (HV1.out.tn HGW.out HNE.out.2.1 HNE.out.1)
   have HE:=Lib.hid (HM.out.relaid (b2:=b2) (N1:=N1) (M2:=Pl.goM f M) HNE.out.2.1 (by have:=HOW.out;rw [Pl.done_end f hl0] at this;exact this) (HH.out.ok.go HK.out HN1.out))
   obtain ⟨c5,c6⟩:=HM.out.cells
   have f2:=frozen_of_row wr p 0 _ _ HM.out.blk
   have f3:=frozen_of_row wr p 1 _ _ HM.out.blk
   go_wp2_with fail
   go_ret
   exact ⟨b2,rfl,HNE.out.2.2.2,HE.out.1,(((Tn.of (fun i=>i=p) HB2.out).trans (T':=fun _=>False) (Tn.of _ HVB.out) (fun _ _ x=>x.elim)).trans HGW.out (fun i hi x=>by have:=HNE.out.2.2.2;omega)).trans HE.out.2 (fun _ _ x=>x)⟩
  ·intro x c w1 cnt1 hwx hwc hlx hat hrg1 hlt hg1 hs1 hen
   have bx:=bounds_u32 hwx
   have hgx:=at_get hat
   have hcm:=HH.out.ok.place _ ((Pl.get_iff HH.out.ok.up).1 hgx)
   have hfc:=HK.out c hcm.1 hcm.2
   have ht1:Tn (fun i=>i=b2) V w1:=HGW.out.grown hg1 (fun k hk=>by cases hk;exact .inl (Nat.le_refl _))
   have how1:=HOW.out.kept hg1 (fun e=>by have:=HNE.out.2.2.1;cases e;omega)
   obtain ⟨left1,hl1⟩ : ∃ left1:Lit→Bool,left1=fun z=>left z && !z.sameKey (.int .u32 x):=⟨_,rfl⟩
   rw [← hl1] at hrg1
   have HST:=Lib.hid (show ∀ w2,w2.ownsMap Tryz.prog 28 (plainElem (H:=Unit) Tryz.prog 3) b2 (Pl.doneM f left M).length (dat (Pl.doneM f left M))→∃ w3,(Instr.mapUpdate 173 (.map (some b2)) (.int .u32 x) (.int .i64 (f c))).run Tryz.prog w2=.ok () w3∧w3.ownsMap Tryz.prog 28 (plainElem (H:=Unit) Tryz.prog 3) b2 (Pl.doneM f left1 M).length (dat (Pl.doneM f left1 M))∧Tn (fun i=>i=b2) w2 w3 from
    fun w2 h2=>stepM h2 HH.out.ok.up HH.out.ok.len (by omega) hgx (by have:=HN1.out;omega) hl1)
   have HPL:=Lib.hid (show Calls Tryz.prog 103 #[.int .i64 c,.slice B m d] w1 fun e w3=>e=.returned (.int .i64 (f c))∧Below w1.heap.size w1 w3 from by
    rw [HF.out]
    exact place_any c B m d l w1 (Rws.then_ HU.out ((((Tn.of (fun _=>False) HB2.out).trans (Tn.of _ HVB.out) (fun _ _ x=>x)).trans ht1 (fun i hi x=>by have:=HNE.out.2.2.2;omega)).below (Below.refl _ _) (Nat.le_refl _) (fun _ x=>x.elim))))
   have HT1:=Lib.hid ht1
   have HLT:=Lib.hid (show cnt1<wr.rangeLeft b V.heap.size by rw [HRG.out.left_eq];exact hlt)
   have HR1:=Lib.hid hrg1
   have HO1:=Lib.hid how1
   clear hrg1 ht1 hl1 hfc hcm hgx hlx hat hwx hwc hs1 hg1 hlt how1
   go_wp2_with fail
   refine HPL.out.mono ?_
   rintro e w3 ⟨rfl,hb3⟩
   obtain ⟨w4,hst,how4,ht4⟩:=HST.out w3 (own_tn HO1.out (Tn.of (fun _=>False) hb3) (fun x=>x))
   have htn:=(Tn.of (fun i=>i=b2) hb3).trans ht4 (fun _ _ x=>x)
   have hrg4:=ranges_tn HR1.out htn (fun e=>HNE.out.1 e) (fun e=>by have:=HNE.out.2.2.1;omega)
   have HTN:=Lib.hid htn
   have HOW4:=Lib.hid how4
   clear hb3 how4 ht4 htn
   go_wp2_with fail
   go_roundw
   case rel=>exact ⟨left1,cnt1,hrg4,HOW4.out,HT1.out.trans HTN.out (fun _ _ x=>x)⟩
   case measure=>rw [hrg4.left_eq];exact HLT.out
end Go.Proofs.YtlgdcelgkiipaaaGreat
namespace Go.Proofs.YtlgdcelgkiipaaaGreat.Ls
open Go.RowKit
def encLs (q:Int × Int):List Value:=[.int .u32 q.1,.int .u64 q.2]
theorem encLs_len (q:Int × Int):(encLs q).length=2:=rfl
theorem encLs_one (q:Int × Int):∀ u ∈ encLs q,u.oneCell'=true:=fun u hu=>by
 simp only [encLs,List.mem_cons,List.not_mem_nil,or_false] at hu
 rcases hu with rfl | rfl <;> rfl
def encC (x:Int):List Value:=[.int .u32 x]
theorem encC_len (x:Int):(encC x).length=1:=rfl
theorem encC_one (x:Int):∀ u ∈ encC x,u.oneCell'=true:=fun u hu=>by
 simp only [encC,List.mem_cons,List.not_mem_nil,or_false] at hu
 rw [hu];rfl
theorem infoLr:(Tryz.prog.info? 151).map (fun i=>(i.zero,i.size,i.bytes))=some (some (.agg #[.int .u32 0,.int .u64 0]),2,16):=by kernel_rfl
theorem infoCl:(Tryz.prog.info? 28).map (fun i=>(i.zero,i.size,i.bytes))=some (some (.int .u32 0),1,4):=by kernel_rfl
abbrev OwnLr (w:World) (B:Nat) (v:Value) (L:Pl.Mks):Prop:=OwnR encLs 2 151 w B v L
abbrev OwnCl (w:World) (B:Nat) (v:Value) (L:List Int):Prop:=OwnR encC 1 28 w B v L
structure RefL (w:World) (B q:Nat) (A:Option Addr) (c:Nat) (L:Pl.Mks):Prop where
 q_:B≤q
 blk:w.heap[q]?=some (.cells #[.slice A L.length c] 101 (0,0))
 row:OwnLr w B (.slice A L.length c) L
 ne:∀ g,Value.ownBlock (.slice A L.length c)=some g→g≠q
section
variable {w w' w0:World} {B q n c:Nat} {A:Option Addr} {L:Pl.Mks} {T:Nat→Prop}
theorem RefL.lt (h:RefL w B q A c L):q<w.heap.size:=lt_of_block h.blk
theorem RefL.cell (h:RefL w B q A c L):w.cell? ⟨q,0,none⟩=some (.slice A L.length c):=cell0 (r:=[]) h.blk
theorem RefL.rws (h:RefL w B q A c L):Rws encLs w w.heap.size A L.length c L:=(OwnR.rws encLs_len h.row).2
theorem RefL.tn (h:RefL w B q A c L) (ht:Tn T w w') (hT:∀ i,B≤i→¬ T i):RefL w' B q A c L :=
 ⟨h.q_,ht.old h.blk (hT q h.q_),OwnR.tn h.row ht (fun g hg=>hT g (h.row.lt g hg).1),h.ne⟩
theorem RefL.then_ (h:RefL w B q A c L) (hb:Below w.heap.size w w'):RefL w' B q A c L:=⟨h.q_,below_old hb h.blk h.lt,OwnR.then_ h.row hb,h.ne⟩
theorem RefL.len (h:RefL w B q A c L):L.length≤maxLen:=Nat.le_trans h.rws.le h.rws.cap
theorem RefL.at_ (h:RefL w B q A c L) {i:Nat} (hi:i<L.length) :
  ∃ g o,A=some ⟨g,o,none⟩∧∀ j,j<L.length→w.cell? ⟨g,o + j * 2,none⟩=some (.int .u32 (L.getD j default).1)∧w.cell? ⟨g,o + j * 2 + 1,none⟩=some (.int .u64 (L.getD j default).2):=by
 obtain ⟨g,o,e,_,hc⟩:=Rws.at_ encLs_len h.rws hi
 exact ⟨g,o,e,fun j hj=>⟨by have:=hc j hj 0 _ (by decide) rfl;simpa using this,by have:=hc j hj 1 _ (by decide) rfl;simpa [Nat.add_assoc] using this⟩⟩
end
def AtR (L:Pl.Mks) (c:Int) (k:Int):Prop:=(k=-1∧∀ p ∈ L,p.1≠c)∨∃ i:Nat,k=(i:Int)∧i<L.length∧(L.getD i default).1=c
def AtI (w:World) (L:Pl.Mks) (n:Nat) (x:Int) (i:Value) (wr:World):Prop:=∃ j:Nat,i=.int .i64 (j:Int)∧j≤n∧(∀ k,k<j→(L.getD k default).1≠x)∧wr=w
set_option maxHeartbeats 1000000 in
theorem at_any {w:World} {B q c:Nat} {A:Option Addr} {L:Pl.Mks} (h:RefL w B q A c L) (x:Int) :
  Calls Tryz.prog 190 #[.pointer (some ⟨q,0,none⟩),.int .u32 x] w fun e w'=>∃ k,e=.returned (.int .i64 k)∧AtR L x k∧w'=w:=by
 have HL:=Lib.hid h
 have c0:=h.cell
 obtain ⟨n,hn⟩ : ∃ n,n=L.length:=⟨_,rfl⟩
 have hmax:=h.len
 unfold maxLen at hmax
 rw [← hn] at c0 hmax
 have HN:=Lib.hid hn
 clear h hn
 go_enter Tryz.func190,Tryz.ntmps190
 go_wp2_with fail
 go_loopw [5] (fun i wr=>AtI w L n x i wr) (fun i _=>n - (intOf i).toNat)
 case atStart=>exact ⟨0,rfl,Nat.zero_le _,fun k hk=>absurd hk (Nat.not_lt_zero _),rfl⟩
 case round =>
  obtain ⟨j,rfl,hj,hno,rfl⟩:=hrel
  have HNO:=Lib.hid hno
  by_cases hlt:j<n
  ·obtain ⟨g,o,rfl,hc⟩:=HL.out.at_ (show j<L.length by rw [← HN.out];exact hlt)
   obtain ⟨a0,a1⟩:=hc j (by rw [← HN.out];exact hlt)
   obtain ⟨⟨y,v⟩,hy⟩ : ∃ p,p=L.getD j default:=⟨_,rfl⟩
   rw [← hy] at a0 a1
   simp only at a0 a1
   have z0:(0:Int)≤(j:Int):=Int.natCast_nonneg _
   have z1:(j:Int)<(n:Int):=Int.ofNat_lt.2 hlt
   have HMS:=Lib.hid (show n - (j + 1)<n - j by omega)
   by_cases e:y=x
   ·have z2:(y == x)=true:=by simpa using e
    have HE:=Lib.hid (show AtR L x (j:Int) from .inr ⟨j,rfl,by rw [← HN.out];exact hlt,by rw [← hy];exact e⟩)
    clear hc hy hno e
    go_wp2_with fail
    go_ret
    exact ⟨_,rfl,HE.out,rfl⟩
   ·have z2:(y == x)=false:=by simpa using e
    have HE:=Lib.hid (show ∀ k,k<j + 1→(L.getD k default).1≠x from fun k hk=>by
     rcases Nat.lt_succ_iff_lt_or_eq.1 hk with hk | rfl
     ·exact HNO.out k hk
     ·rw [← hy];exact e)
    clear hc hy hno e
    go_wp2_with fail
    go_roundw
    case rel=>exact ⟨j + 1,by go_num,hlt,HE.out,rfl⟩
    case measure=>simp [intOf];(have:=HMS.out;omega)
  ·have HE:=Lib.hid (show AtR L x (-1) from .inl ⟨rfl,fun p hp=>by
    obtain ⟨k,hk,rfl⟩:=List.getElem_of_mem hp
    have:=HNO.out k (by have:=HN.out;omega)
    rwa [List.getD_eq_getElem?_getD,List.getElem?_eq_getElem hk] at this⟩)
   clear hno
   go_wp2_with fail
   go_ret
   exact ⟨_,rfl,HE.out,rfl⟩
def RetC (w:World) (cs:List Int) (e:Ending) (w':World):Prop:=∃ A c,e=.returned (.slice A cs.length c)∧OwnCl w' w.heap.size (.slice A cs.length c) cs∧Below w.heap.size w w'
theorem below_drewN {B:Nat} {w w':World} (h:Below B w w') (n:Nat):Below B w (w'.drewN n):=⟨h.os,h.tape,h.output,h.size,h.block⟩
end Go.Proofs.YtlgdcelgkiipaaaGreat.Ls
