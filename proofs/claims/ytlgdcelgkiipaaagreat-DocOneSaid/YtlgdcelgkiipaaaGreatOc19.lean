/-
  Leases: Set, Copy, New. Conditions: those that each states.
  A range over a function whose rounds all go on: what a function that is ranged over owes (Runs), and the law of the one who ranges over it, for any function value: what stands ahead of yield (a method value's receiver), what it has captured. Conditions: those that each states.
  maps.Keys over leases' map, ranged over: its clients come, each once, in some order. Conditions: the caller's rounds keep the map.
  append onto rows of the call's own, inside a fence. Conditions: those that each states.
  A row of uint32 of the call's own that is being sorted: its words; cmp.Less. Conditions: those that each states.
  slices.insertionSortOrdered at uint32. Conditions: rows of at most a million.
-/
import Derived.Test.YtlgdcelgkiipaaaGreatOc18
import Derived.Test.YtlgdcelgkiipaaaGreatOc00
import Derived.RangeFuncSeq
import Derived.RangeFuncRecord
import Derived.RangeFuncLeaves
import Derived.Maps.OwnIn
import Derived.Sort.MapsRangeIn
import Derived.Shelf.Abstract
import Derived.WalkKit
import Derived.OwnWalkIn
import Derived.TacticsInMore
import Derived.LoopNIn
import Derived.LoopIn
import Derived.Lib.Hide
import Derived.BigQuiet
import Derived.BigRegion
import Derived.Handy
import Derived.Sort.AssemblyPlain
set_option maxRecDepth 100000
set_option linter.unusedVariables false
namespace Go.Proofs.YtlgdcelgkiipaaaGreat.Ls
open Go.RowKit
theorem LeasesW.put {w w1:World} {p b:Nat} {M:Pl.Mks} (h:LeasesW w p b M) {c v:Int} (hc:0≤c∧c<4294967296) (hv:0≤v∧v≤1099511627840) (ho:w1.ownsMap Tryz.prog 28 (plainElem (H:=Unit) Tryz.prog 27) b (Pl.putM M c v).length (datL (Pl.putM M c v))) (ht:Tn (fun i=>i=b) w w1) (hf:(Pl.putM M c v).length≤16):LeasesW w1 p b (Pl.putM M c v) :=
 ⟨ht.old h.blk h.ne,ho,h.ok.put hc hv,hf⟩
set_option maxHeartbeats 1000000 in
theorem set_any {w:World} {p b:Nat} {M:Pl.Mks} (h:LeasesW w p b M) {c:Int} (hc:0≤c∧c<4294967296) (now:Int) (h0:0≤now) :
  Calls Tryz.prog 64 #[.pointer (some ⟨p,0,none⟩),.int .u32 c,.int .u64 now] w fun e w'=>e=.returned (.int .i64 (Pl.setL M c now).1)∧LeasesW w' p b (Pl.setL M c now).2∧Tn (fun i=>i=b) w w':=by
 have HN:=Lib.hid (none_leases h)
 have HL:=look_ok h.own hc
 have hln:=fun ty=>h.own.len Tryz.underlying168 ty
 simp only [sizeL_dat] at hln
 have c0:=h.cell
 have HH:=Lib.hid h
 obtain ⟨n,hn⟩ : ∃ n,n=M.length:=⟨_,rfl⟩
 rw [← hn] at hln
 have HNN:=Lib.hid hn
 by_cases hlate:1099511627776<now
 ·have z1:decide (now > 1099511627776)=true:=decide_eq_true hlate
  have z2:decide (1099511627776<now)=true:=decide_eq_true hlate
  have HE:=Lib.hid (Pl.setL_late (L:=M) (x:=c) hlate)
  obtain ⟨g1,hg1⟩ : ∃ g,g=(Pl.getM M c).getD 0:=⟨_,rfl⟩
  obtain ⟨g2,hg2⟩ : ∃ g,g=(Pl.getM M c).isSome:=⟨_,rfl⟩
  rw [← hg1,← hg2] at HL
  clear h hc hlate hn hg1 hg2 h0
  go_enter Tryz.func64,Tryz.ntmps64
  go_wp2_with fail
  refine HN.out.mono ?_
  rintro e w' ⟨rfl,hw⟩
  rw [hw]
  clear hw w'
  go_wp2_with fail
  go_ret
  rw [HE.out]
  exact ⟨rfl,HH.out,Tn.refl _ _⟩
 ·have z1:decide (now > 1099511627776)=false:=decide_eq_false hlate
  have z2:decide (1099511627776<now)=false:=decide_eq_false hlate
  obtain ⟨t,ht⟩ : ∃ t,t=now + 64:=⟨_,rfl⟩
  have hw:IntKind.u64.wrap (now + 64)=t:=by rw [IntKind.wrap_u64];omega
  have ht64:64≤t∧t≤1099511627840:=by omega
  cases hg:Pl.getM M c with
  | none =>
   rw [hg] at HL
   by_cases hf:16≤n
   ·have y1:decide ((n:Int)≥16)=true:=decide_eq_true (by omega)
    have y2:decide ((16:Int)≤(n:Int))=true:=decide_eq_true (by omega)
    have HE:=Lib.hid (Pl.setL_full hlate hg (by omega))
    clear h hc hlate hn hf hg ht ht64 h0 hw
    go_enter Tryz.func64,Tryz.ntmps64
    go_wp2_with fail
    refine HN.out.mono ?_
    rintro e w' ⟨rfl,hw⟩
    rw [hw]
    clear hw w'
    go_wp2_with fail
    go_ret
    rw [HE.out]
    exact ⟨rfl,HH.out,Tn.refl _ _⟩
   ·have y1:decide ((n:Int)≥16)=false:=decide_eq_false (by omega)
    have y2:decide ((16:Int)≤(n:Int))=false:=decide_eq_false (by omega)
    have HE:=Lib.hid (Pl.setL_new hlate hg (by omega))
    rw [← ht] at HE
    obtain ⟨w1,hst,ho1,ht1⟩:=storeL h.own h.ok.len hc (v:=t) (by omega)
    have H1:=Lib.hid (h.put hc (by omega) ho1 ht1 (Nat.le_trans (Pl.len_put_le _ _ _) (by omega)))
    have HT1:=Lib.hid ht1
    have hmax:(if t<(0:Int) then (0:Int) else t)=t:=if_neg (by omega)
    have hmax2:(if (0:Int)<t then t else (0:Int))=t:=if_pos (by omega)
    clear h hc hlate hn hf hg ht ht64 h0 ho1 ht1
    go_enter Tryz.func64,Tryz.ntmps64
    go_wp2_with fail
    refine HN.out.mono ?_
    rintro e w' ⟨rfl,hww⟩
    rw [hww]
    clear hww w'
    go_wp2_with fail
    go_ret
    rw [HE.out]
    exact ⟨rfl,H1.out,HT1.out⟩
  | some u =>
   rw [hg] at HL
   have hu:=h.ok.tick _ ((Pl.get_iff h.ok.up).1 hg)
   simp only at hu
   by_cases hut:t<u
   ·have HE:=Lib.hid (show Pl.setL M c now=(0,Pl.putM M c u) by rw [Pl.setL_old hlate hg,if_pos (by omega)])
    have y1:(if u<t then t else u)=u:=if_neg (by omega)
    have y2:(if t<u then u else t)=u:=if_pos hut
    obtain ⟨w1,hst,ho1,ht1⟩:=storeL h.own h.ok.len hc (v:=u) (by omega)
    have H1:=Lib.hid (h.put hc hu ho1 ht1 (Nat.le_trans (Lp.len_put_old h.ok.up hg) h.few))
    have HT1:=Lib.hid ht1
    clear h hc hlate hn hg ht ht64 h0 ho1 ht1 hut hu
    go_enter Tryz.func64,Tryz.ntmps64
    go_wp2_with fail
    refine HN.out.mono ?_
    rintro e w' ⟨rfl,hww⟩
    rw [hww]
    clear hww w'
    go_wp2_with fail
    go_ret
    rw [HE.out]
    exact ⟨rfl,H1.out,HT1.out⟩
   ·have HE:=Lib.hid (show Pl.setL M c now=(0,Pl.putM M c t) by rw [Pl.setL_old hlate hg,if_neg (by omega),ht])
    have y1:(if u<t then t else u)=t:=by split <;> omega
    have y2:(if t<u then u else t)=t:=if_neg hut
    obtain ⟨w1,hst,ho1,ht1⟩:=storeL h.own h.ok.len hc (v:=t) (by omega)
    have H1:=Lib.hid (h.put hc (by omega) ho1 ht1 (Nat.le_trans (Lp.len_put_old h.ok.up hg) h.few))
    have HT1:=Lib.hid ht1
    clear h hc hlate hn hg ht ht64 h0 ho1 ht1 hut hu
    go_enter Tryz.func64,Tryz.ntmps64
    go_wp2_with fail
    refine HN.out.mono ?_
    rintro e w' ⟨rfl,hww⟩
    rw [hww]
    clear hww w'
    go_wp2_with fail
    go_ret
    rw [HE.out]
    exact ⟨rfl,H1.out,HT1.out⟩
end Go.Proofs.YtlgdcelgkiipaaaGreat.Ls
namespace Go.Proofs.YtlgdcelgkiipaaaGreat.Sq
open Go.RowKit
open Go.Proofs.YtlgdcelgkiipaaaGreat
def Runs {α:Type} (P:Program) (gf:Nat) (args:Nat→Array Value) (encs:α→Array Value) (Nx:List α→α→Prop) (End:List α→Prop) (O:Nat→Prop) (W:World):Prop :=
 ∀ (n l:Nat) (J:Nat→List α→World→Prop),
  (∀ W1,Below W.heap.size W W1→J W1.heap.size [] W1) →
  (∀ S pre W1 W2,W.heap.size≤S→J S pre W1→Tn (fun i=>W.heap.size≤i∧i<S) W1 W2→J S pre W2) →
  (∀ S pre x W1 m,W.heap.size≤S→J S pre W1→Nx pre x→YieldAt Fence.wide m P l (encs x) W1 fun e W'=>e=.returned (.bool true)∧J S (pre ++ [x]) W'∧Tn (fun i=>O i∨S≤i) W1 W') →
  CallsIn Fence.wide n P gf (args l) W fun e W'=>(∃ v,e=.returned v)∧∃ S xs,W.heap.size≤S∧End xs∧J S xs W'
theorem tn_put {T:Nat→Prop} (W:World) {r:Nat} (o:Obj) (hT:T r):Tn T W (W.putObj r o) :=
 ⟨rfl,rfl,rfl,by rw [World.putObj_size];exact Nat.le_refl _,fun b _ hb=>World.putObj_heap_other (fun e=>hb (e ▸ hT))⟩
theorem lt_heap {W:World} {r:Nat} {o:Obj} (h:W.heap[r]?=some o):r<W.heap.size:=(Array.getElem?_eq_some_iff.1 h).1
theorem wp_range {α:Type} {P:Program} {g:Operand} {ps:Array Tmp} {assign body:Code} {Q:Exit→Act→World→Prop} {a:Act} {w:World} {n:Nat} {gf:Nat} {la lb:Array Value}
  (hg:a.eval g=.func (.func gf) la lb) (eg:∀ args w,(callFunc gf args).run P w=.ok (.enter gf args) w)
  {encs:α→Array Value} {Nx:List α→α→Prop} {End:List α→Prop} {O:Nat→Prop}
  (hrun:∀ W0,Below w.heap.size w W0→W0.heap.size=w.heap.size + 2→Runs P gf (fun l=>la ++ #[.func (.yield l) #[] #[]] ++ lb) encs Nx End (fun i=>O i∨i=w.heap.size + 1) W0)
  (hO:∀ i,O i→i<w.heap.size) (hps:∀ x,(encs x).size=ps.size)
  (I:Nat→List α→World→Prop) (Ax:Nat→List α→α→Act→World→Prop)
  (h0:∀ W1,Below w.heap.size w W1→w.heap.size + 2≤W1.heap.size→I W1.heap.size [] W1)
  (hI:∀ S pre W1 W2,w.heap.size + 2≤S→I S pre W1→Tn (fun i=>w.heap.size≤i∧i<S) W1 W2→I S pre W2)
  (hA:∀ S pre x a1 W1 W2,w.heap.size + 2≤S→Ax S pre x a1 W1→Tn (fun i=>w.heap.size≤i∧i<S) W1 W2→Ax S pre x a1 W2)
  (hassign:∀ m l S pre x W,w.heap.size + 2≤S→S≤W.heap.size→I S pre W→Nx pre x→assign.wpIn (Fence.wide.inRound l) m P (Exit.then (fun a1 W1=>Ax S pre x a1 W1∧Tn (fun i=>O i∨S≤i) W W1) (fun _ _ _=>False)) { tmps:=(ps.zip (encs x)).foldl (fun t (p,v)=>t.setIfInBounds p v) a.tmps,defers:=[] } W)
  (hbody:∀ m l S pre x a1 W,w.heap.size + 2≤S→S≤W.heap.size→Ax S pre x a1 W→Nx pre x→body.wpIn (Fence.wide.inRound l) m P (fun e _ W'=>e=.normal∧I S (pre ++ [x]) W'∧Tn (fun i=>O i∨S≤i) W W') a1 W)
  (hdone:∀ S xs W,w.heap.size + 2≤S→End xs→I S xs W→W.heap[w.heap.size]?=some (.deferred (some []))→Q .normal { a with defers:={ target:=.collected w.heap.size,args:=#[] } :: a.defers } W) :
  (Code.rangeFunc g ps assign body).wpIn Fence.wide n P Q a w:=by
 refine wpIn_rangeFunc fun fn hfn=>?_
 obtain ⟨B,hB⟩ : ∃ B,B=w.heap.size:=⟨_,rfl⟩
 obtain ⟨rec,hrec⟩ : ∃ rec:LoopState→Loop,rec=fun st=>{ state:=st,pending:=none,fn,tmps:=a.tmps,params:=ps,assign,body,defers:=w.heap.size }:=⟨_,rfl⟩
 obtain ⟨W0,hW0⟩ : ∃ W0,W0=(w.alloc (.deferred (some []))).alloc (.loop (rec .ready)):=⟨_,rfl⟩
 have hs0:W0.heap.size=B + 2:=by rw [hW0,hB];simp
 have hb0:Below w.heap.size w W0:=by rw [hW0];exact ((Below.refl _ w).alloc (Nat.le_refl _) _).alloc (by simp) _
 have hl0:W0.heap[B + 1]?=some (.loop (rec .ready)):=by
  rw [hW0,hB]
  have:=World.alloc_heap_new (w.alloc (.deferred (some []))) (.loop (rec .ready))
  rwa [World.size_alloc] at this
 have hd0:W0.heap[B]?=some (.deferred (some [])):=by
  rw [hW0,hB]
  exact (Below.heap_alloc _ _ _ (by simp)).trans (World.alloc_heap_new w _)
 refine ⟨B + 1,[{ target:=.collected B,args:=#[] }],W0,{ target:=.fn (.func gf) lb,args:=la ++ #[.func (.yield (B + 1)) #[] #[]] },W0,gf,la ++ #[.func (.yield (B + 1)) #[] #[]] ++ lb,W0,?_,?_,?_,?_,?_,?_⟩
 ·rw [hB,hW0,hrec];exact run_enterLoop_outer _ _ _ _ _
 ·simp only [resolve,hg]
  simp [go_sem]
 ·intro f' _;trivial
 ·simp [invoke,go_sem,eg]
 ·intro h;cases h
 ·rw [hB] at hl0 hd0 hs0 ⊢
  clear hB
  refine (hrun W0 hb0 hs0 (n - 1) (w.heap.size + 1)
   (fun S pre W=>I S pre W∧W.heap[w.heap.size + 1]?=some (.loop (rec .ready))∧W.heap[w.heap.size]?=some (.deferred (some []))∧S≤W.heap.size)
   (fun W1 h1=>⟨h0 W1 (hb0.trans (h1.mono (by omega))) (by have:=h1.size;omega),below_old h1 hl0 (by omega),below_old h1 hd0 (by omega),Nat.le_refl _⟩)
   (fun S pre W1 W2 hS h ht=>⟨hI S pre W1 W2 (by omega) h.1 (ht.more (fun b _ hb=>⟨by omega,hb.2⟩)),ht.old h.2.1 (fun hb=>by omega),ht.old h.2.2.1 (fun hb=>by omega),Nat.le_trans h.2.2.2 ht.size⟩)
   ?_).mono ?_
  ·rintro S pre x W m hS ⟨hi,hl,hd,hSW⟩ hx
   have hS2:w.heap.size + 2≤S:=by omega
   have hy:=run_yield (P:=P) (args:=encs x) hl (by rw [hrec];exact hps x)
   rw [hrec] at hy
   refine ⟨fn,_,assign,body,hy,roundIn_of_wpIn hfn (wpIn_mono (hassign m (w.heap.size + 1) S pre x W hS2 hSW hi hx) ?_)⟩
   intro e a1 W1 hq
   cases e with
   | normal =>
    obtain ⟨hax,ht1⟩:=hq
    have hn1:¬ (O (w.heap.size + 1)∨S≤w.heap.size + 1):=fun h=>by
     rcases h with h | h
     ·have:=hO _ h;omega
     ·omega
    have hn0:¬ (O w.heap.size∨S≤w.heap.size):=fun h=>by
     rcases h with h | h
     ·have:=hO _ h;omega
     ·omega
    have hl1:=ht1.old hl hn1
    have hd1:=ht1.old hd hn0
    refine ⟨_,run_beginRound hl1 (by rw [hrec]),?_⟩
    obtain ⟨W2,hW2⟩ : ∃ W2,W2=W1.putObj (w.heap.size + 1) (.loop { rec .ready with state:=.busy }):=⟨_,rfl⟩
    rw [← hW2]
    have ht2:Tn (fun i=>w.heap.size≤i∧i<S) W1 W2:=by rw [hW2];exact tn_put W1 _ ⟨by omega,by omega⟩
    have hl2:W2.heap[w.heap.size + 1]?=some (.loop { rec .ready with state:=.busy }):=by rw [hW2];exact World.putObj_heap_same (lt_heap hl1)
    have hd2:W2.heap[w.heap.size]?=some (.deferred (some [])):=by rw [hW2,World.putObj_heap_other (by omega)];exact hd1
    have htl:Tn (fun i=>i=w.heap.size + 1) W1 W2:=by rw [hW2];exact tn_put W1 _ rfl
    have hsz:S≤W2.heap.size:=Nat.le_trans hSW (Nat.le_trans ht1.size ht2.size)
    refine wpIn_mono (hbody m (w.heap.size + 1) S pre x a1 W2 hS2 hsz (hA S pre x a1 W1 W2 hS2 hax ht2) hx) ?_
    rintro e a3 W3 ⟨rfl,hi3,ht3⟩
    have hl3:=ht3.old hl2 hn1
    have hd3:=ht3.old hd2 hn0
    have hr:=run_endRound (P:=P) none hl3
    refine ⟨_,_,hr,rfl,⟨?_,?_,?_,?_⟩,?_⟩
    ·exact hI S (pre ++ [x]) W3 _ hS2 hi3 (tn_put W3 _ ⟨by omega,by omega⟩)
    ·rw [World.putObj_heap_same (lt_heap hl3),hrec];rfl
    ·rw [World.putObj_heap_other (by omega)];exact hd3
    ·rw [World.putObj_size];exact Nat.le_trans hsz ht3.size
    ·have t1:Tn (fun i=>(O i∨i=w.heap.size + 1)∨S≤i) W W1:=ht1.more (fun b _ hb=>hb.elim (fun h=>.inl (.inl h)) .inr)
     have t2:Tn (fun i=>(O i∨i=w.heap.size + 1)∨S≤i) W1 W2:=htl.more (fun b _ hb=>.inl (.inr hb))
     have t3:Tn (fun i=>(O i∨i=w.heap.size + 1)∨S≤i) W2 W3:=ht3.more (fun b _ hb=>hb.elim (fun h=>.inl (.inl h)) .inr)
     exact ((t1.trans t2 (fun _ _ h=>h)).trans t3 (fun _ _ h=>h)).trans (tn_put (T:=fun i=>(O i∨i=w.heap.size + 1)∨S≤i) W3 _ (.inl (.inr rfl))) (fun _ _ h=>h)
   | ret=>exact hq.elim
   | exit id=>exact hq.elim
   | goto t=>exact hq.elim
   | panic ch=>exact hq.elim
   | outgrown=>exact hq.elim
  ·rintro e W2 ⟨⟨v,rfl⟩,S,xs,hS,hE,hi,hl,hd,_⟩
   refine ⟨none,_,by have:=run_endLoop (P:=P) hl (by rw [hrec];simp);rw [hrec] at this;exact this,?_⟩
   exact hdone S xs _ (by omega) hE (hI S xs W2 _ (by omega) hi (tn_put W2 _ ⟨by omega,by omega⟩)) (by rw [World.putObj_heap_other (by omega)];exact hd)
end Go.Proofs.YtlgdcelgkiipaaaGreat.Sq
namespace Go.Proofs.YtlgdcelgkiipaaaGreat.Ls
open Go.RowKit Go.Maps
attribute [local go_sem] Oper.semAt_some
theorem collL_start {H:Type} (M:Pl.Mks) (hM:Pl.Rising M):Pl.Coll M (Maps.has (datL M:DataW H)) [] :=
 ⟨List.Pairwise.nil,fun p=>by
  rw [hasL_dat]
  constructor
  ·intro h;cases h
  ·rintro ⟨h1,h2⟩
   obtain ⟨c,v⟩:=p
   rw [(Pl.get_iff hM).2 h1] at h2
   cases h2⟩
theorem atL_get {M:Pl.Mks} {x c:Int} (h:∀ zd,(datL M:DataW Unit).atKey (.int .u32 x) zd=.lit (.int .u64 c)):Pl.getM M x=some c:=by
 have h1:=h (.agg [])
 rw [atL_dat] at h1
 cases hg:Pl.getM M x with
 | none=>rw [hg] at h1;simp at h1
 | some v =>
  rw [hg] at h1
  simp at h1
  rw [h1]
theorem ranges_tn {T:Nat→Prop} {H:Type} {P:Program} {k:TypeId} {R:Value→Option (DataW H × List MemPlace)} {w w':World} {b r n:Nat} {D:DataW H} {left:Lit→Bool} {cnt:Nat}
  (h:w.ranges P k R b r n D left cnt) (ht:Tn T w w') (hb:¬ T b) (hr:¬ T r):w'.ranges P k R b r n D left cnt:=by
 obtain ⟨es,clock,since,seen,c0,h1,F,hs,hD,h2,rest⟩:=h
 exact ⟨es,clock,since,seen,c0,ht.old h1 hb,F,hs,hD,ht.old h2 hr,rest⟩
def KyN (N:Nat) (pre:List Int) (x:Int):Prop:=(0≤x∧x<4294967296)∧pre.length<N
def KyE (M:Pl.Mks) (xs:List Int):Prop:=xs.Perm (M.map Prod.fst)
set_option maxHeartbeats 1000000 in
theorem keys_runs {W:World} {bx b:Nat} {M:Pl.Mks} {O:Nat→Prop} (hbx:W.heap[bx]?=some (.cells #[.map (some b)] 168 (0,0))) (hown:W.ownsMap Tryz.prog 28 (plainElem (H:=Unit) Tryz.prog 27) b M.length (datL M))
  (hup:Pl.Rising M) (hO:∀ i,O i→i<W.heap.size) (hOb:¬ O b) :
  Sq.Runs Tryz.prog 257 (fun l=>#[] ++ #[.func (.yield l) #[] #[]] ++ #[.pointer (some ⟨bx,0,none⟩)]) (fun x:Int=>#[.int .u32 x]) (KyN M.length) (KyE M) O W:=by
 intro n l J hJ0 hJs hY
 have c0:=cell0 (r:=[]) hbx
 have hbw:=hown.lt
 show CallsIn Fence.wide n Tryz.prog 257 #[.func (.yield l) #[] #[],.pointer (some ⟨bx,0,none⟩)] W _
 refine callsIn_of_wp Tryz.func257 rfl trivial ?_ rfl
 simp only [Tryz.ntmps257,List.size_toArray,List.length_cons,List.length_nil,Nat.reduceAdd,Nat.reduceSub,Array.replicate_succ,Array.replicate_zero,List.push_toArray,List.append_toArray,List.nil_append,List.cons_append]
 gi_wp2_with (first
  | (gi_at_range;refine wpListIn_range_own _ rfl _ 168 rfl 28 27 keyedC Tryz.underlying168 _ b _ _ rfl hown ?_;intro w0 hrg0 hg0 hs0)
  | gi_in)
 have HB0:=Lib.hid (show Below W.heap.size W w0 from (Below.refl _ _).grown hg0 (Nat.le_refl _) (fun j e=>by cases e))
 have HRG:=Lib.hid hrg0
 have HS0:=Lib.hid (show W.heap.size + 1≤w0.heap.size by have:=hrg0.lt;omega)
 have HJ0:=Lib.hid (hJ0 w0 HB0.out)
 clear hrg0 hg0 hs0 c0
 obtain ⟨S,hS⟩ : ∃ S,S=w0.heap.size:=⟨_,rfl⟩
 rw [← hS] at HS0 HJ0
 have HSW:=Lib.hid hS
 clear hS
 gi_loopw [3] (fun _ wr=>∃ (left:Lit→Bool) (cnt:Nat) (Cs:Pl.Mks),wr.ranges Tryz.prog 28 (plainElem (H:=Unit) Tryz.prog 27) b W.heap.size M.length (datL M) left cnt∧Pl.Coll M left Cs∧Cs.length + cnt≤M.length∧J S (Cs.map Prod.fst) wr∧S≤wr.heap.size)
  (fun _ wr=>wr.rangeLeft b W.heap.size)
 case atStart =>
  exact ⟨_,_,[],HRG.out,collL_start M hup,by rw [sizeL_dat];simp,HJ0.out,Nat.le_of_eq HSW.out⟩
 case round =>
  obtain ⟨left,cnt,Cs,hrg,hco,hle,hj,hsz⟩:=hrel
  gi_wp2_with (first
   | (gi_at_next;refine wpListIn_next_ranges_ii _ rfl _ rfl 28 27 .u32 .u64 keyedC Tryz.underlying28 Tryz.underlying27 b W.heap.size M.length _ _ _ rfl hrg ?_ ?_)
   | gi_in)
  ·intro _ hl0
   gi_wp2
   go_end0
   exact ⟨⟨_,rfl⟩,S,Cs.map Prod.fst,by have:=HS0.out;omega,(Pl.coll_end hco hup hl0).map _,hj⟩
  ·intro x v w1 cnt1 hwx hwc hlx hat hrg1 hlt hg1 hs1 hen
   have hgx:=atL_get hat
   have ht1:Tn (fun i=>i=W.heap.size) wr w1:=(Tn.refl _ wr).grown hg1 (fun k e=>by cases e;exact .inr rfl)
   have hj1:=hJs S _ _ _ (by have:=HS0.out;omega) hj (ht1.more (fun i _ e=>by have:=HS0.out;omega))
   have hx:0≤x∧x<4294967296:=by
    have e1:IntKind.u32.min=0:=by decide
    have e2:IntKind.u32.max=4294967295:=by decide
    simp only [Lit.wf,e1,e2,Bool.and_eq_true,decide_eq_true_eq] at hwx
    omega
   have HC1:=Lib.hid (Pl.coll_step hco hup hlx hgx)
   obtain ⟨fn,tmps,assign,body,hy,hR⟩:=hY S (Cs.map Prod.fst) x w1 (n - 1) (by have:=HS0.out;omega) hj1 ⟨hx,by rw [List.length_map];omega⟩
   clear hs1
   gi_wp2
   refine ⟨(fun h=>by cases h),hR.mono ?_⟩
   rintro e W3 ⟨rfl,hj3,ht3⟩
   gi_wp2
   have hrg3:=ranges_tn hrg1 ht3 (fun h=>h.elim hOb (fun h=>by have:=HS0.out;omega)) (fun h=>h.elim (fun h=>by have:=hO _ h;omega) (fun h=>by have:=HS0.out;omega))
   go_roundw
   case rel=>exact ⟨_,cnt1,Cs ++ [(x,v)],hrg3,HC1.out,by simp;omega,by simpa using hj3,Nat.le_trans hsz (Nat.le_trans ht1.size ht3.size)⟩
   case measure=>rw [hrg3.left_eq,hrg.left_eq];exact hlt
end Go.Proofs.YtlgdcelgkiipaaaGreat.Ls
namespace Go.Proofs.YtlgdcelgkiipaaaGreat
open Go.RowKit
variable {α:Type} {enc:α→List Value} {k:Nat} {e:TypeId}
theorem wpListIn_append_rws {F:Fence} {nF:Nat} {ops:Array Oper} {rest:List Oper} {o:Oper} {a:Act} {Q:Exit→Act→World→Prop} (hk:∀ x,(enc x).length=k) (h1:∀ x,∀ u ∈ enc x,u.oneCell'=true) {t:TypeId} {z:Value} {bytes:Nat} (hu:Tryz.prog.underlying t=some (.slice e)) (hinfo:(Tryz.prog.info? e).map (fun i=>(i.zero,i.size,i.bytes))=some (some z,k,bytes)) (hzs:z.cells.size=k) (hsz:0<k)
  (w:World) (hgd:o.guard=none) (s x:Operand) (ho:o.op=.call { callee:=.builtin .append,args:=#[s,x],argTypes:=#[t,t] })
  (base:Nat) (A:Option Addr) (n c:Nat) (l:List α) (hs:a.eval s=.slice A n c) (hown:OwnR enc k e w base (.slice A n c) l)
  (B:Nat) (A':Option Addr) (m c':Nat) (d:List α) (hx:a.eval x=.slice A' m c') (hsrc:Rws enc w B A' m c' d) (hmax:n + m≤maxLen) (hfit:(n + m) * bytes≤140737488355328) (hbase:base≤w.heap.size)
  (h:∀ A2 c2 w',OwnR enc k e w' base (.slice A2 (n + m) c2) (l ++ d)→w.grownBy w' (Value.ownBlock (.slice A n c)) →
   (Value.ownBlock (.slice A2 (n + m) c2)=Value.ownBlock (.slice A n c)∨Value.ownBlock (.slice A2 (n + m) c2)=some w.heap.size) →
   wpListIn F nF Tryz.prog ops Q rest (a.put o.dst (.slice A2 (n + m) c2)) w'):wpListIn F nF Tryz.prog ops Q (o :: rest) a w:=by
 obtain ⟨A2,c2,w1,hr,h2,h3,h4⟩:=run_append_rws hk h1 hu hinfo hzs hsz w o.type base A n c l hown B A' m c' d hsrc hmax hfit hbase
 refine wpListIn_plain hgd fun K hK=>?_
 unfold Oper.wpIn
 refine ⟨?_,?_⟩
 ·simp [Oper.about,ho,resolve,Target.leads,Sem.run_pure]
 ·rw [Oper.semAt_plain F _ _ (by rw [ho];intro c hc';cases hc')]
  simp [execOp,ho,resolve,invoke,builtin,hs,hx,hr,Result.andThen]
  exact hK _ _ (h A2 c2 w1 h2 h3 h4)
end Go.Proofs.YtlgdcelgkiipaaaGreat
namespace Go.Proofs.YtlgdcelgkiipaaaGreat.Ls
open Go.RowKit Go.Sort
def encU (x:Int):List Value:=[.int .u32 x]
theorem encU_len (x:Int):(encU x).length=1:=rfl
theorem encU_one (x:Int):∀ u ∈ encU x,u.oneCell'=true:=fun u hu=>by
 simp only [encU,List.mem_cons,List.not_mem_nil,or_false] at hu
 rw [hu];rfl
structure Sr (w0:World) (base g n c:Nat) (d:Array Int) (w:World):Prop where
 own:OwnR encU 1 28 w base (.slice (some ⟨g,0,none⟩) n c) d.toList
 tn:Tn (fun i=>i=g) w0 w
section
variable {w0 w w':World} {base g n c:Nat} {d:Array Int}
theorem Sr.size (h:Sr w0 base g n c d w):d.size=n:=by
 have:=(h.own.rws encU_len).1
 simpa using this.symm
theorem Sr.at_ (h:Sr w0 base g n c d w):base≤g∧g<w.heap.size:=h.own.lt g rfl
theorem getD_of (d:Array Int) {j:Nat} (hj:j<d.size):d.toList.getD j default=d[j]!:=by
 rw [List.getD_eq_getElem?_getD,getElem!_pos d j hj]
 simp [hj]
theorem Sr.cell (h:Sr w0 base g n c d w) {j:Nat} (hj:j<n):w.cell? ⟨g,j,none⟩=some (.int .u32 d[j]!):=by
 obtain ⟨g',o,e,_,hc⟩:=Rws.at_ encU_len (h.own.rws encU_len).2 hj
 cases e
 have:=hc j hj 0 _ (by decide) rfl
 rw [getD_of d (by rw [h.size];exact hj)] at this
 simpa using this
theorem Sr.fro (h:Sr w0 base g n c d w) {j:Nat}:w.frozen? ⟨g,j,none⟩=false:=by
 rcases h.own.2 with ⟨e,_⟩ | ⟨g',cap,cur,e,_,hh,_⟩
 ·cases e
 ·cases e
  exact frozen_of_row w g j _ _ hh
theorem Sr.tn_ (h:Sr w0 base g n c d w) {T:Nat→Prop} (ht:Tn T w w') (hT:∀ b,b<w0.heap.size→¬ T b) (hg:¬ T g):Sr w0 base g n c d w' :=
 ⟨h.own.tn ht (fun b hb=>by cases hb;exact hg),h.tn.trans ht (fun b hb hb2=>absurd hb2 (hT b hb))⟩
theorem Sr.then_ (h:Sr w0 base g n c d w) (hb:Below w.heap.size w w'):Sr w0 base g n c d w':=h.tn_ (Tn.of (fun _=>False) hb) (fun _ _ x=>x) (fun x=>x)
theorem Sr.drew (h:Sr w0 base g n c d w):Sr w0 base g n c d w.drew:=h.then_ (below_drawn (Below.refl _ w))
theorem Sr.drewN (h:Sr w0 base g n c d w) (q:Nat):Sr w0 base g n c d (w.drewN q):=h.then_ ⟨rfl,rfl,rfl,Nat.le_refl _,fun _ _=>rfl⟩
theorem Sr.alloc (h:Sr w0 base g n c d w) (o:Obj):Sr w0 base g n c d (w.alloc o):=h.then_ ((Below.refl _ w).alloc (Nat.le_refl _) o)
theorem Sr.set1 (h:Sr w0 base g n c d w) {i:Nat} (hi:i<n) (x:Int):Sr w0 base g n c (d.setIfInBounds i x) (w.setCell ⟨g,i,none⟩ (.int .u32 x)):=by
 have hs:=h.size
 have h1:=(OwnR.set_ encU_len h.own i 0 (.int .u32 x) (by decide) (d[i]!) x (by rw [getElem!_pos d i (by omega)];simp [show i<d.size by omega]) rfl).1
 refine ⟨?_,h.tn.set_ (Or.inr rfl) _⟩
 rw [Array.toList_setIfInBounds]
 simpa using h1
theorem Sr.swap (h:Sr w0 base g n c d w) {i j:Nat} (hi:i<n) (hj:j<n):Sr w0 base g n c (swp d i j) ((w.setCell ⟨g,i,none⟩ (.int .u32 d[j]!)).setCell ⟨g,j,none⟩ (.int .u32 d[i]!)):=(h.set1 hi _).set1 hj _
theorem Sr.cell2 (h:Sr w0 base g n c d w) {i j:Nat} (hj:j<n) (v:Value):∃ u,(w.setCell ⟨g,i,none⟩ v).cell? ⟨g,j,none⟩=some u:=by
 by_cases e:i=j
 ·subst e;exact ⟨v,World.cell?_setCell_same _ _ _ (h.cell hj)⟩
 ·exact ⟨_,(World.cell?_setCell_other _ _ _ _ (by intro e';simp only [Addr.mk.injEq] at e';omega)).trans (h.cell hj)⟩
end
theorem quiet_u {P:Program} {f:FuncId} {args:Array Value} {w:World} {n:Nat} {v:Value}
  (h:Calls P f args (w.drewN n) fun e w'=>e=.returned v∧w'=w.drewN n):Calls P f args (w.drewN n) fun e w''=>e=.returned v∧∃ m,w''=w.drewN m :=
 h.mono fun _ _ ⟨he,hm⟩=>⟨he,n,hm⟩
theorem isNaN_u (x:Int) (w:World):Calls Tryz.prog 277 #[.int .u32 x] w fun e w'=>e=.returned (.bool false)∧w'=w:=by
 have z:(x == x)=true:=by simp
 go_enter Tryz.func277,Tryz.ntmps277
 go_wp2_with fail
 go_ret
 exact ⟨rfl,rfl⟩
set_option maxHeartbeats 400000 in
theorem less_u {x y:Int} {r:Bool} (hr:ltInt x y=r) (w:World):Calls Tryz.prog 267 #[.int .u32 x,.int .u32 y] w fun e w'=>e=.returned (.bool r)∧w'=w:=by
 have HX:=fun w=>Lib.hid (isNaN_u x w)
 have hd:decide (x<y)=r:=hr
 clear hr
 go_enter Tryz.func267,Tryz.ntmps267
 cases r
 ·go_wp2_with fail
  refine (HX _).out.mono ?_
  rintro e w' ⟨rfl,rfl⟩
  go_wp2_with fail
  go_ret
  exact ⟨rfl,rfl⟩
 ·go_wp2_with fail
  refine (HX _).out.mono ?_
  rintro e w' ⟨rfl,rfl⟩
  go_wp2_with fail
  go_ret
  exact ⟨rfl,rfl⟩
open Go.RowKit Go.Sort
section
variable {a b i j:Nat} {d:Array Int}
theorem ins_go (hj:a<j) (hl:ltInt d[j]! d[j - 1]! = true):insInner ltInt a j d=insInner ltInt a (j - 1) (swp d j (j - 1)):=by
 cases j with
 | zero=>omega
 | succ j =>
  simp only [Nat.add_sub_cancel] at hl ⊢
  rw [insInner,if_pos (by simp [hl];omega)]
theorem ins_stop (h:j≤a∨ltInt d[j]! d[j - 1]! = false):insInner ltInt a j d=d:=by
 cases j with
 | zero=>rfl
 | succ j =>
  simp only [Nat.add_sub_cancel] at h
  rw [insInner,if_neg]
  rcases h with h | h
  ·simp;omega
  ·simp [h]
theorem insO_go (h:i<b):insOuter ltInt a b i d=insOuter ltInt a b (i + 1) (insInner ltInt a i d):=by rw [insOuter,if_pos h]
theorem insO_stop (h:¬ i<b):insOuter ltInt a b i d=d:=by rw [insOuter,if_neg h]
end
def InO (w0:World) (base g n c a b:Nat) (d:Array Int) (v:Value) (w:World):Prop:=∃ (i:Nat) (dk:Array Int),v=.int .i64 (i:Int)∧a<i∧i≤b + 1∧Sr w0 base g n c dk w∧insOuter ltInt a b i dk=insertionSort ltInt d a b
def InI (w0:World) (base g n c a i:Nat) (R:Array Int) (v:Value) (w:World):Prop:=∃ (j:Nat) (dk:Array Int),v=.int .i64 (j:Int)∧a≤j∧j≤i∧Sr w0 base g n c dk w∧insInner ltInt a j dk=R
set_option maxHeartbeats 4000000 in
theorem insSort_any {w0 w:World} {base g n c a b:Nat} {d:Array Int} (h:Sr w0 base g n c d w) (hab:a≤b) (hb:b≤n) (hn:n≤1000000) :
  Calls Tryz.prog 261 #[.slice (some ⟨g,0,none⟩) n c,.int .i64 (a:Int),.int .i64 (b:Int)] w fun e w'=>e=.returned (.tuple #[])∧Sr w0 base g n c (insertionSort ltInt d a b) w':=by
 have HS:=Lib.hid h
 have HW1:=Lib.hid (show wrap64 ((a:Int) + 1)=((a + 1:Nat):Int) by unfold wrap64;omega)
 have H0:=Lib.hid (show a<a + 1∧a + 1≤b + 1 by omega)
 have HAB:=Lib.hid hab
 have HB:=Lib.hid hb
 have HN:=Lib.hid hn
 clear h hab hb hn
 go_enter Tryz.func261,Tryz.ntmps261
 go_wp2_with fail
 go_loopw [6] (fun v wr=>InO w0 base g n c a b d v wr) (fun v _=>b + 1 - (intOf v).toNat)
 case atStart=>exact ⟨a + 1,d,by rw [HW1.out],H0.out.1,H0.out.2,HS.out,rfl⟩
 case round =>
  obtain ⟨i,dk,rfl,hai,hib,hs,he⟩:=hrel
  have HE:=Lib.hid he
  have HS1:=Lib.hid hs
  have HAI:=Lib.hid hai
  have HIB:=Lib.hid hib
  clear he hs hai hib
  by_cases hlt:i<b
  ·have z1:decide ((i:Int)<(b:Int))=true:=decide_eq_true (by omega)
   have HLT:=Lib.hid hlt
   clear hlt
   have HN1:=Lib.hid (show a<i + 1∧i + 1≤b + 1∧b + 1 - (i + 1)<b + 1 - i by have:=HAI.out;have:=HLT.out;omega)
   have hi9:i<1000000:=by have:=HB.out;have:=HN.out;have:=HLT.out;omega
   go_wp2_with fail
   go_loopw [7] (fun v wr2=>InI w0 base g n c a i (insInner ltInt a i dk) v wr2) (fun v _=>(intOf v).toNat)
   case atStart=>exact ⟨i,dk,rfl,Nat.le_of_lt HAI.out,Nat.le_refl _,HS1.out,rfl⟩
   case round =>
    obtain ⟨j,dj,rfl,haj,hji,hs,he⟩:=hrel
    have HS2:=Lib.hid hs
    have HE2:=Lib.hid he
    have HAJ:=Lib.hid haj
    have HJI:=Lib.hid hji
    clear he hs haj hji z1
    have hjn:j<n:=by have:=HJI.out;have:=HLT.out;have:=HB.out;omega
    by_cases hja:a<j
    ·have q1:decide ((j:Int) > (a:Int))=true:=decide_eq_true (by omega)
     have q2:decide ((a:Int)<(j:Int))=true:=decide_eq_true (by omega)
     have q3:decide (a<j)=true:=decide_eq_true hja
     obtain ⟨jm,hjm⟩ : ∃ q,q=j - 1:=⟨_,rfl⟩
     have HJN:=Lib.hid hjn
     have HJM:=Lib.hid hjm
     have HJA:=Lib.hid hja
     have HJ:=Lib.hid (show jm<n∧a≤jm∧jm≤i∧jm<j by have:=HJI.out;omega)
     have l1:(0:Int)≤(j:Int):=Int.natCast_nonneg _
     have l2:(j:Int)<(n:Int):=Int.ofNat_lt.2 hjn
     have l3:(0:Int)≤(jm:Int):=Int.natCast_nonneg _
     have l4:(jm:Int)<(n:Int):=Int.ofNat_lt.2 HJ.out.1
     have c1:=HS2.out.cell hjn
     have c2:=HS2.out.cell HJ.out.1
     have hm:wrap64 ((j:Int) - 1)=(jm:Int):=by have:=HN.out;clear l1 l2 l3 l4 q1 q2 q3;unfold wrap64;omega
     have hm2:IntKind.i64.wrap ((j:Int) - 1)=(jm:Int):=by have:=HN.out;clear l1 l2 l3 l4 q1 q2 q3 hm;rw [IntKind.wrap_i64];omega
     obtain ⟨x,hx⟩ : ∃ x,x=dj[j]!:=⟨_,rfl⟩
     obtain ⟨y,hy⟩ : ∃ y,y=dj[jm]!:=⟨_,rfl⟩
     rw [← hx] at c1
     rw [← hy] at c2
     have HX:=Lib.hid hx
     have HY:=Lib.hid hy
     clear hjm hja hx hy hjn
     cases hl:ltInt x y with
     | true =>
      have HL:=fun w=>Lib.hid (less_u hl w)
      have HL0:=Lib.hid hl
      go_wp2_with fail
      go_quiet ((go_at_call 267;exact quiet_u (HL _).out))
      go_wp2_with fail
      have hs3:=HS2.out.drewN nq
      generalize wr.drewN nq=W at hs3 ⊢
      have HS3:=Lib.hid hs3
      clear hs3 c1 c2 HL hl q1 q2 q3
      have c1:=HS3.out.cell HJN.out
      have c2:=HS3.out.cell HJ.out.1
      have f1:=HS3.out.fro (j:=j)
      have f2:=HS3.out.fro (j:=jm)
      rw [← HX.out] at c1
      rw [← HY.out] at c2
      obtain ⟨u,c3⟩:=HS3.out.cell2 (i:=j) HJ.out.1 (.int .u32 y)
      have hs4:=(HS3.out.swap (i:=j) (j:=jm) HJN.out HJ.out.1).drew
      rw [← HX.out,← HY.out] at hs4
      go_region
      generalize ((W.setCell ⟨g,j,none⟩ (.int .u32 y)).setCell ⟨g,jm,none⟩ (.int .u32 x)).drew=W4 at hs4 ⊢
      have HS4:=Lib.hid hs4
      clear hs4 c1 c2 c3 f1 f2
      go_wp2_with fail
      go_roundw
      case rel=>exact ⟨jm,swp dj j jm,by first | rfl | go_num,HJ.out.2.1,HJ.out.2.2.1,HS4.out,by
       rw [← HE2.out,ins_go HJA.out (by rw [← HJM.out,← HX.out,← HY.out];exact HL0.out),← HJM.out]⟩
      case measure=>simp only [intOf,Int.toNat_natCast];exact HJ.out.2.2.2
     | false =>
      have HL:=fun w=>Lib.hid (less_u hl w)
      have HST:=Lib.hid (show dj=insInner ltInt a i dk by rw [← HE2.out,ins_stop (.inr (by rw [← HJM.out,← HX.out,← HY.out];exact hl))])
      go_wp2_with fail
      go_quiet ((go_at_call 267;exact quiet_u (HL _).out))
      have hs3:=HS2.out.drewN nq
      generalize wr.drewN nq=W at hs3 ⊢
      have HS3:=Lib.hid hs3
      clear hs3 c1 c2 HL hl q1 q2 q3
      go_wp2_with fail
      go_roundw
      case rel=>exact ⟨i + 1,dj,by go_num,HN1.out.1,HN1.out.2.1,HS3.out,by rw [← HE.out,insO_go HLT.out,← HST.out]⟩
      case measure=>simp [intOf];(have:=HN1.out;omega)
    ·have q1:decide ((j:Int) > (a:Int))=false:=decide_eq_false (by omega)
     have q2:decide ((a:Int)<(j:Int))=false:=decide_eq_false (by omega)
     have q3:decide (a<j)=false:=decide_eq_false hja
     have HST:=Lib.hid (show dj=insInner ltInt a i dk by rw [← HE2.out,ins_stop (.inl (by omega))])
     go_wp2_with fail
     go_quiet (fail)
     have hs3:=HS2.out.drewN nq
     generalize wr.drewN nq=W at hs3 ⊢
     have HS3:=Lib.hid hs3
     clear hs3 q1 q2 q3
     go_wp2_with fail
     go_roundw
     case rel=>exact ⟨i + 1,dj,by go_num,HN1.out.1,HN1.out.2.1,HS3.out,by rw [← HE.out,insO_go HLT.out,← HST.out]⟩
     case measure=>simp [intOf];(have:=HN1.out;omega)
  ·have z1:decide ((i:Int)<(b:Int))=false:=decide_eq_false (by omega)
   have HLT:=Lib.hid hlt
   clear hlt
   go_wp2_with fail
   rw [insO_stop HLT.out] at HE
   rw [← HE.out]
   exact ⟨rfl,_,results_none (by kernel_rfl) _ _ _,rfl,HS1.out⟩
end Go.Proofs.YtlgdcelgkiipaaaGreat.Ls
