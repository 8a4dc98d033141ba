/-
  slices.Sort at uint32. Conditions: at most seventeen.
  slices.AppendSeq, Collect, Sorted over maps.Keys of leases' map: the clients, rising. Conditions: at most seventeen leases.
  Leases.rising, ranged over: the leases come, by rising clients. Conditions: at most seventeen leases.
  Leases.All over the landed text (a range over rising). Conditions: none but the leases'.
-/
import Derived.Test.YtlgdcelgkiipaaaGreatOc23
import Derived.Test.YtlgdcelgkiipaaaGreatOc19
set_option maxRecDepth 100000
set_option linter.unusedVariables false
namespace Go.Proofs.YtlgdcelgkiipaaaGreat.Ls
open Go.RowKit Go.Sort
set_option maxHeartbeats 1000000 in
theorem ins_0 (A:Option Addr) (c:Nat) (w:World):Calls Tryz.prog 261 #[.slice A 0 c,.int .i64 0,.int .i64 0] w fun e w'=>e=.returned (.tuple #[])∧w'=w:=by
 go_enter Tryz.func261,Tryz.ntmps261
 go_wp2_with fail
 go_loopw [6] (fun v wr=>v=.int .i64 1∧wr=w) (fun v _=>0)
 case atStart=>exact ⟨rfl,rfl⟩
 case round =>
  obtain ⟨rfl,rfl⟩:=hrel
  go_wp2_with fail
  exact ⟨rfl,_,results_none (by kernel_rfl) _ _ _,rfl,rfl⟩
set_option maxHeartbeats 1000000 in
theorem pdq_0 (A:Option Addr) (c:Nat) (lim:Int) (w:World):Calls Tryz.prog 259 #[.slice A 0 c,.int .i64 0,.int .i64 0,.int .i64 lim] w fun e w'=>e=.returned (.tuple #[])∧w'=w:=by
 have HI:=fun w=>Lib.hid (ins_0 A c w)
 go_enter Tryz.func259,Tryz.ntmps259
 go_wp2_with fail
 go_loopw [1,2,3,8,9] (fun va vb vl v8 v9 wr=>va=.int .i64 0∧vb=.int .i64 0∧wr=w) (fun va vb _ _ _ _=>0)
 case atStart=>exact ⟨rfl,rfl,rfl⟩
 case round =>
  obtain ⟨rfl,rfl,rfl⟩:=hrel
  go_wp2_with fail
  refine (HI _).out.mono ?_
  rintro e w2 ⟨rfl,rfl⟩
  go_wp2_with fail
  exact ⟨rfl,_,results_none (by kernel_rfl) _ _ _,rfl,rfl⟩
theorem bitLen_17:∀ n,n<18→n≤Lib.bitLen n + 12∧Lib.bitLen n<100:=by decide
def RetSo (w:World) (base:Nat) (A:Option Addr) (n c:Nat) (l:List Int) (e:Ending) (w':World):Prop :=
 e=.returned (.tuple #[])∧∃ l',l'.Perm l∧l'.Pairwise (·≤·)∧OwnR encU 1 28 w' base (.slice A n c) l'∧Tn (fun i=>∃ a,A=some a∧i=a.block) w w'
theorem sorted_list {d d':Array Int} (hP:PermIn 0 d.size d d') (hS:SortedIn ltInt 0 d.size d'):d'.toList.Perm d.toList∧d'.toList.Pairwise (·≤·):=by
 refine ⟨?_,?_⟩
 ·have:=hP.2.2
  simp at this
  rwa [List.take_of_length_le (by simp [hP.1])] at this
 ·rw [List.pairwise_iff_getElem]
  intro i j hi hj hij
  have hj':j<d.size:=by rw [← hP.1];simpa using hj
  have:=hS i j (Nat.zero_le _) hij hj'
  have e1:d'[i]! = d'[i]'(by simpa using hi):=by rw [getElem!_pos d' i (by simpa using hi)]
  have e2:d'[j]! = d'[j]'(by simpa using hj):=by rw [getElem!_pos d' j (by simpa using hj)]
  rw [e1,e2] at this
  unfold ltInt at this
  simpa using this
set_option maxHeartbeats 1000000 in
theorem sort_u {w:World} {base n c:Nat} {A:Option Addr} {l:List Int} (h:OwnR encU 1 28 w base (.slice A n c) l) (hn:n≤17) :
  Calls Tryz.prog 256 #[.slice A n c] w (RetSo w base A n c l):=by
 have hl:=(h.rws encU_len).1
 have HBL:∀ w,Hid (Calls Tryz.prog 260 #[.int .u64 (n:Int)] w fun e w'=>e=.returned (.int .i64 (Lib.bitLen n))∧w'=w):=fun w=>Lib.hid (by
  have:=Tryz.bits_Len (n:Int) w (by omega) (by omega)
  simpa using this)
 have hbn:=bitLen_17 n (by omega)
 obtain ⟨lim,hlim⟩ : ∃ q,q=Lib.bitLen n:=⟨_,rfl⟩
 rw [← hlim] at HBL hbn
 have HW:=Lib.hid (show IntKind.u64.wrap (n:Int)=(n:Int) by rw [IntKind.wrap_u64];omega)
 rcases Nat.eq_zero_or_pos n with h0 | h0
 ·subst h0
  have HP:=fun w=>Lib.hid (pdq_0 A c (lim:Int) w)
  have HH:=Lib.hid h
  have hnil:l=[]:=List.eq_nil_of_length_eq_zero hl.symm
  have HNI:=Lib.hid hnil
  clear h hn hl hbn hlim hnil
  go_enter Tryz.func256,Tryz.ntmps256
  have hw:=HW.out
  go_wp2_with fail
  refine (HBL _).out.mono ?_
  rintro e w2 ⟨rfl,rfl⟩
  go_wp2_with fail
  refine (HP _).out.mono ?_
  rintro e w3 ⟨rfl,rfl⟩
  go_wp2_with fail
  exact ⟨rfl,_,results_none (by kernel_rfl) _ _ _,rfl,l,List.Perm.refl _,by rw [HNI.out];exact List.Pairwise.nil,HH.out,Tn.refl _ _⟩
 ·obtain ⟨g,rfl,hb,hg⟩:=h.pos_ h0
  have hs:Sr w base g n c l.toArray w:=⟨by simpa using h,Tn.refl _ _⟩
  have hsz:l.toArray.size=n:=hs.size
  have HP:=Lib.hid (pdq_u (show n<50 by omega) (n + 1) w 0 n lim l.toArray hs (Nat.le_refl _) (by omega) (by omega) (Nat.le_refl _) (by omega) hbn.2 (Or.inl rfl))
  have hq:=pdq_sorts ltInt swo_ltInt l.toArray 0 n lim true true (Nat.zero_le _) (by rw [hsz];exact Nat.le_refl _) (Or.inl rfl)
  rw [← hsz] at hq
  have HL:=Lib.hid (sorted_list hq.1 hq.2)
  rw [hsz] at HL
  clear h hn hl hbn hlim hs hsz hq h0 hb hg
  go_enter Tryz.func256,Tryz.ntmps256
  have hw:=HW.out
  go_wp2_with fail
  refine (HBL _).out.mono ?_
  rintro e w2 ⟨rfl,rfl⟩
  go_wp2_with fail
  refine HP.out.mono ?_
  rintro e w3 ⟨rfl,hs3⟩
  have HS3:=Lib.hid hs3
  clear hs3
  go_wp2_with fail
  exact ⟨rfl,_,results_none (by kernel_rfl) _ _ _,rfl,_,HL.out.1,HL.out.2,HS3.out.own,HS3.out.tn.more (fun b _ e=>⟨_,rfl,e⟩)⟩
open Go.RowKit Go.Maps
attribute [local go_sem] Oper.semAt_some
theorem infoU:(Tryz.prog.info? 28).map (fun i=>(i.zero,i.size,i.bytes))=some (some (.int .u32 0),1,4):=by kernel_rfl
def AsI (w:World) (S:Nat) (pre:List Int) (W:World):Prop:=∃ A c,W.heap[w.heap.size]?=some (.cells #[.slice A pre.length c] 80 (0,0))∧OwnR encU 1 28 W S (.slice A pre.length c) pre∧Below w.heap.size w W
set_option maxHeartbeats 1000000 in
theorem appendSeq_any {w:World} {bx b:Nat} {M:Pl.Mks} (hbx:w.heap[bx]?=some (.cells #[.map (some b)] 168 (0,0))) (hown:w.ownsMap Tryz.prog 28 (plainElem (H:=Unit) Tryz.prog 27) b M.length (datL M))
  (hup:Pl.Rising M) (hM:M.length≤1000) :
  Calls Tryz.prog 258 #[.slice none 0 0,.func (.func 257) #[] #[.pointer (some ⟨bx,0,none⟩)]] w fun e w'=>∃ A c xs,e=.returned (.slice A xs.length c)∧KyE M xs∧OwnR encU 1 28 w' w.heap.size (.slice A xs.length c) xs∧Below w.heap.size w w':=by
 have hbw:=hown.lt
 have hbxl:=lt_of_block hbx
 refine (callsIn_wide (n:=9)).1 ?_
 refine callsIn_of_wp_marks Tryz.func258 rfl trivial ?_ rfl
 simp only [Tryz.ntmps258,List.size_toArray,List.length_cons,List.length_nil,Nat.reduceAdd,Nat.reduceSub,Array.replicate_succ,Array.replicate_zero,List.push_toArray,List.append_toArray,List.nil_append,List.cons_append]
 gi_wp2
 obtain ⟨w1,hw1⟩ : ∃ z,z=w.alloc (.cells #[.slice none 0 0] 80):=⟨_,rfl⟩
 rw [← hw1]
 have hs1:w1.heap.size=w.heap.size + 1:=by rw [hw1];simp
 have hb1:Below w.heap.size w w1:=by rw [hw1];exact (Below.refl _ w).alloc (Nat.le_refl _) _
 have hbox:w1.heap[w.heap.size]?=some (.cells #[.slice none 0 0] 80 (0,0)):=by rw [hw1];exact heap_new rfl
 clear hw1
 refine Sq.wp_range (gf:=257) (la:=#[]) (lb:=#[.pointer (some ⟨bx,0,none⟩)]) rfl (enters_of Tryz.func257 (by kernel_rfl) rfl)
  (O:=fun i=>i=w.heap.size)
  (fun W0 h0 hsz=>keys_runs (below_old h0 (below_old hb1 hbx hbxl) (by omega)) (own_tn hown (Tn.of (fun _=>False) (hb1.trans (h0.mono (by omega)))) (fun h=>h)) hup (fun i hi=>by rcases hi with h | h <;> omega) (fun hi=>by rcases hi with h | h <;> omega))
  (fun i hi=>by omega) (fun _=>rfl) (AsI w) (fun S pre x a1 W=>AsI w S pre W∧a1={ tmps:=#[.slice none 0 0,.func (.func 257) #[] #[.pointer (some ⟨bx,0,none⟩)],.pointer (some ⟨w.heap.size,0,none⟩),undef,.slice none 0 0,.int .u32 x,.func (.func 257) #[] #[.pointer (some ⟨bx,0,none⟩)],.int .u32 x,undef,undef,undef,undef,undef],defers:=[] })
  ?start ?keep ?keepA ?assign ?body ?done
 case start =>
  intro W1 h1 hsz
  exact ⟨none,0,below_old h1 hbox (by omega),OwnR.nil_ _ _ _ _ _,hb1.trans (h1.mono (by omega))⟩
 case keep =>
  rintro S pre W1 W2 hS ⟨A,c,h1,h2,h3⟩ ht
  exact ⟨A,c,ht.old h1 (by omega),h2.tn ht (fun g hg=>by have:=(h2.lt g hg).1;omega),ht.below h3 h3.size (fun i hi=>by omega)⟩
 case keepA =>
  rintro S pre x a1 W1 W2 hS ⟨⟨A,c,h1,h2,h3⟩,e⟩ ht
  exact ⟨⟨A,c,ht.old h1 (by omega),h2.tn ht (fun g hg=>by have:=(h2.lt g hg).1;omega),ht.below h3 h3.size (fun i hi=>by omega)⟩,e⟩
 case assign =>
  intro m l S pre x W hS hSW hi hx
  gi_wp2
  exact ⟨⟨hi,trivial⟩,Tn.refl _ _⟩
 case body =>
  rintro m l S pre x a1 W hS hSW ⟨⟨A,c,h1,h2,h3⟩,rfl⟩ hx
  have hpl:pre.length<M.length:=hx.2
  have hc:=cell0 (r:=[]) h1
  have hf:=frozen_of_row W w.heap.size 0 _ _ h1
  have hsrc:Rws encU (W.alloc (.cells #[.int .u32 x] 28)) (W.alloc (.cells #[.int .u32 x] 28)).heap.size (some ⟨W.heap.size,0,none⟩) 1 1 [x]:=((OwnR.lit (e:=28) encU_len W [x] (by simp [maxLen])).rws encU_len).2
  gi_wp2_with (gi_at_builtin;refine wpListIn_append_rws encU_len encU_one Tryz.underlying80 infoU rfl (by decide) _ rfl _ _ rfl S A pre.length c pre rfl (h2.alloc _) _ _ 1 1 [x] rfl hsrc (by unfold maxLen;omega) (by omega) (by simp;omega) ?_;intro A2 c2 w2 h4 hg4 hat4;have ht4:Tn (fun i=>S≤i) W w2:=((Tn.refl (fun i=>S≤i) W).alloc _).grown hg4 (fun k e=>.inr (h2.lt k e).1);have hb4:=ht4.old h1 (by omega);have hc4:=cell0 (r:=[]) hb4;have hf4:=frozen_of_row w2 w.heap.size 0 _ _ hb4)
  have ht5:Tn (fun i=>i=w.heap.size) w2 (w2.setCell ⟨w.heap.size,0,none⟩ (.slice A2 (pre.length + 1) c2)):=(Tn.refl (fun i=>i=w.heap.size) w2).set_ (p:=⟨w.heap.size,0,none⟩) (Or.inr rfl) _
  refine ⟨⟨A2,c2,by rw [List.length_append];exact blk_set hb4 _,by rw [List.length_append];exact h4.tn ht5 (fun g hg=>by have:=(h4.lt g hg).1;omega),?_⟩,?_⟩
  ·exact ht5.below (ht4.below h3 h3.size (fun i hi=>by omega)) (Nat.le_trans h3.size ht4.size) (fun i hi=>by omega)
  ·exact (ht4.more (fun b _ h=>Or.inr h)).trans ht5 (fun b _ h=>Or.inl h)
 case done =>
  rintro S xs W hS hE ⟨A,c,h1,h2,h3⟩ hK
  have hc:=cell0 (r:=[]) h1
  gi_wp2
  have ht:=Sq.tn_put (T:=fun i=>i=w1.heap.size) W (.deferred none) rfl
  refine ⟨by simp,.inl ⟨_,_,rfl,run_takeDeferred hK,?_⟩⟩
  exact ⟨_,results_tmp rfl _ _ _,A,c,xs,rfl,hE,(h2.lower (by omega)).tn ht (fun g hg=>by have:=(h2.lt g hg).1;omega),ht.below h3 h3.size (fun i hi=>by omega)⟩
def RetKy (w:World) (M:Pl.Mks) (e:Ending) (w':World):Prop:=∃ A c,e=.returned (.slice A M.length c)∧OwnR encU 1 28 w' w.heap.size (.slice A M.length c) (M.map Prod.fst)∧Below w.heap.size w w'
theorem keys_sorted {M:Pl.Mks} (hup:Pl.Rising M) {xs ys:List Int} (hE:KyE M xs) (hp:ys.Perm xs) (hs:ys.Pairwise (·≤·)):ys=M.map Prod.fst:=by
 refine List.Perm.eq_of_pairwise (le:=fun a b:Int=>a≤b) (fun a b _ _ h1 h2=>Int.le_antisymm h1 h2) hs ?_ (hp.trans hE)
 rw [List.pairwise_map]
 exact hup.imp (fun h=>Int.le_of_lt h)
set_option maxHeartbeats 1000000 in
theorem keys_call (w:World) (b:Nat) :
  Calls Tryz.prog 245 #[.map (some b)] w fun e w'=>e=.returned (.func (.func 257) #[] #[.pointer (some ⟨w.heap.size,0,none⟩)])∧w'=w.alloc (.cells #[.map (some b)] 168):=by
 go_enter Tryz.func245,Tryz.ntmps245
 go_wp2_with fail
 go_ret
 exact ⟨rfl,rfl⟩
set_option maxHeartbeats 1000000 in
theorem collect_any {w:World} {bx b:Nat} {M:Pl.Mks} (hbx:w.heap[bx]?=some (.cells #[.map (some b)] 168 (0,0))) (hown:w.ownsMap Tryz.prog 28 (plainElem (H:=Unit) Tryz.prog 27) b M.length (datL M))
  (hup:Pl.Rising M) (hM:M.length≤1000) :
  Calls Tryz.prog 255 #[.func (.func 257) #[] #[.pointer (some ⟨bx,0,none⟩)]] w fun e w'=>∃ A c xs,e=.returned (.slice A xs.length c)∧KyE M xs∧OwnR encU 1 28 w' w.heap.size (.slice A xs.length c) xs∧Below w.heap.size w w':=by
 have HC:=Lib.hid (appendSeq_any hbx hown hup hM)
 clear hbx hown
 go_enter Tryz.func255,Tryz.ntmps255
 go_wp2_with fail
 refine HC.out.mono ?_
 rintro e w' ⟨A,c,xs,rfl,h1,h2,h3⟩
 have H1:=Lib.hid (And.intro h1 (And.intro h2 h3))
 clear h1 h2 h3
 go_wp2_with fail
 go_ret
 exact ⟨A,c,xs,rfl,H1.out.1,H1.out.2.1,H1.out.2.2⟩
set_option maxHeartbeats 1000000 in
theorem sorted_any {w:World} {bx b:Nat} {M:Pl.Mks} (hbx:w.heap[bx]?=some (.cells #[.map (some b)] 168 (0,0))) (hown:w.ownsMap Tryz.prog 28 (plainElem (H:=Unit) Tryz.prog 27) b M.length (datL M))
  (hup:Pl.Rising M) (hM:M.length≤17) :
  Calls Tryz.prog 244 #[.func (.func 257) #[] #[.pointer (some ⟨bx,0,none⟩)]] w (RetKy w M):=by
 have HC:=Lib.hid (collect_any hbx hown hup (by omega))
 have HM:=Lib.hid hM
 have HU:=Lib.hid hup
 clear hbx hown hup hM
 go_enter Tryz.func244,Tryz.ntmps244
 go_wp2_with fail
 refine HC.out.mono ?_
 rintro e w1 ⟨A,c,xs,rfl,h1,h2,h3⟩
 have hlen:xs.length=M.length:=by have:=h1.length_eq;simpa using this
 have HS:=Lib.hid (sort_u h2 (by rw [hlen];exact HM.out))
 have H1:=Lib.hid (And.intro h1 (And.intro h2 (And.intro h3 hlen)))
 clear h1 h2 h3 hlen HC
 go_wp2_with fail
 refine HS.out.mono ?_
 rintro e w2 ⟨rfl,ys,hp,hs,ho,ht⟩
 have H2:=Lib.hid (And.intro hp (And.intro hs (And.intro ho ht)))
 clear hp hs ho ht HS
 go_wp2_with fail
 go_ret
 obtain ⟨h1,h2,h3,hl⟩:=H1.out
 obtain ⟨hp,hs,ho,ht⟩:=H2.out
 have e1:=keys_sorted HU.out h1 hp hs
 rw [e1,hl] at ho
 refine ⟨A,c,by rw [hl];rfl,ho,ht.below h3 h3.size (fun i hi=>?_)⟩
 obtain ⟨a,rfl,rfl⟩:=hi
 exact (h2.lt a.block rfl).1
open Go.RowKit Go.Maps
attribute [local go_sem] Oper.semAt_some
def RsN (M:Pl.Mks) (pre:Pl.Mks) (x:Int × Int):Prop:=∃ k,pre=M.take k∧M[k]?=some x
set_option maxHeartbeats 2000000 in
theorem rising_runs {W:World} {p b:Nat} {M:Pl.Mks} {O:Nat→Prop} (h:LeasesW W p b M) (hM:M.length≤17) (hO:∀ i,O i→i<W.heap.size) (hOp:¬ O p) (hOb:¬ O b) :
  Sq.Runs Tryz.prog 222 (fun l=>#[.pointer (some ⟨p,0,none⟩)] ++ #[.func (.yield l) #[] #[]] ++ #[]) (fun x:Int × Int=>#[.agg #[.int .u32 x.1,.int .u64 x.2]]) (RsN M) (fun xs=>xs=M) O W:=by
 intro n l J hJ0 hJs hY
 have HN:=Lib.hid (none_leases h)
 have HH:=Lib.hid h
 have c0:=h.cell
 have HJ0:=Lib.hid hJ0
 have HY:=Lib.hid hY
 clear h hJ0 hJs hY
 show CallsIn Fence.wide n Tryz.prog 222 #[.pointer (some ⟨p,0,none⟩),.func (.yield l) #[] #[]] W _
 refine callsIn_of_wp Tryz.func222 rfl trivial ?_ rfl
 simp only [Tryz.ntmps222,List.size_toArray,List.length_cons,List.length_nil,Nat.reduceAdd,Nat.reduceSub,Array.replicate_succ,Array.replicate_zero,List.push_toArray,List.append_toArray,List.nil_append,List.cons_append]
 gi_wp2_with fail
 refine ⟨trivial,(fun h=>by cases h),(callsIn_wide.2 HN.out).mono ?_⟩
 rintro e w1 ⟨rfl,hw⟩
 rw [hw]
 clear hw w1
 gi_wp2_with fail
 refine ⟨trivial,(fun h=>by cases h),(callsIn_wide.2 (keys_call W b)).mono ?_⟩
 rintro e w2 ⟨rfl,hw2⟩
 have hb2:Below W.heap.size W w2:=by rw [hw2];exact (Below.refl _ W).alloc (Nat.le_refl _) _
 have hbx2:w2.heap[W.heap.size]?=some (.cells #[.map (some b)] 168 (0,0)):=by rw [hw2];exact heap_new rfl
 have HSO:=Lib.hid (sorted_any hbx2 (HH.out.then_ hb2).own HH.out.ok.up hM)
 have HB2:=Lib.hid hb2
 clear hw2 hb2 hbx2 HN c0
 gi_wp2_with fail
 refine ⟨trivial,(fun h=>by cases h),(callsIn_wide.2 HSO.out).mono ?_⟩
 rintro e w3 ⟨A,c,rfl,ho3,hb3⟩
 have HO3:=Lib.hid (ho3.lower HB2.out.size)
 have HB3:=Lib.hid (HB2.out.trans (hb3.mono HB2.out.size))
 have HL3:=Lib.hid (HH.out.then_ HB3.out)
 have hgS:∀ g,Value.ownBlock (.slice A M.length c)=some g→W.heap.size≤g∧g<w3.heap.size:=fun g hg=>by
  have:=ho3.lt g hg
  have:=HB2.out.size
  omega
 have HGS:=Lib.hid hgS
 have HJ:=Lib.hid (HJ0.out w3 HB3.out)
 obtain ⟨n0,hn0⟩ : ∃ q,q=M.length:=⟨_,rfl⟩
 have HNN:=Lib.hid hn0
 obtain ⟨S,hS⟩ : ∃ S,S=w3.heap.size:=⟨_,rfl⟩
 rw [← hS] at HJ HGS
 have HS:=Lib.hid (show W.heap.size≤S∧S=w3.heap.size from ⟨by rw [hS];exact HB3.out.size,hS⟩)
 rw [← hn0]
 have hn9:n0<1000000:=by omega
 clear ho3 hb3 hgS hn0 hS HSO HB2 HJ0
 gi_wp2_with fail
 gi_loopw [15] (fun v wr=>∃ k:Nat,v=.int .i64 (k:Int)∧k≤n0∧LeasesW wr p b M∧OwnR encU 1 28 wr W.heap.size (.slice A n0 c) (M.map Prod.fst)∧J S (M.take k) wr∧S≤wr.heap.size) (fun v _=>n0 - (intOf v).toNat)
 case atStart=>exact ⟨0,rfl,Nat.zero_le _,HL3.out,by rw [HNN.out];exact HO3.out,by rw [List.take_zero];exact HJ.out,Nat.le_of_eq HS.out.2⟩
 case round =>
  obtain ⟨k,rfl,hk,hl,ho,hj,hsz⟩:=hrel
  have HLW:=Lib.hid hl
  have HO:=Lib.hid ho
  have HJK:=Lib.hid hj
  have HSZ:=Lib.hid hsz
  clear hl ho hj hsz
  by_cases hlt:k<n0
  ·have z1:decide ((k:Int)<(n0:Int))=true:=decide_eq_true (by omega)
   have z2:decide (k<n0)=true:=decide_eq_true hlt
   have l1:(k:Int)<(n0:Int):=Int.ofNat_lt.2 hlt
   have l0:(0:Int)≤(k:Int):=Int.natCast_nonneg _
   have hkM:k<M.length:=by rw [← HNN.out];exact hlt
   obtain ⟨⟨x,v⟩,hx⟩ : ∃ q,q=M[k]:=⟨_,rfl⟩
   have hx1:M[k]?=some (x,v):=by rw [List.getElem?_eq_getElem hkM,hx]
   have hmem:(x,v) ∈ M:=by rw [hx];exact List.getElem_mem hkM
   have hxw:=HLW.out.ok.key _ hmem
   simp only at hxw
   obtain ⟨g,o,hA,_,hc⟩:=Rws.at_ encU_len (HO.out.rws encU_len).2 hlt
   have a0:=hc k hlt 0 _ (by decide) rfl
   rw [show (M.map Prod.fst).getD k default=x by rw [List.getD_eq_getElem?_getD,List.getElem?_map,hx1];rfl] at a0
   subst hA
   simp only [Nat.mul_one,Nat.add_zero] at a0
   have HL:=look_one HLW.out.own hxw
   rw [(Pl.get_iff HLW.out.ok.up).2 hmem] at HL
   simp only [Option.getD_some] at HL
   have c0:=HLW.out.cell
   have HX1:=Lib.hid hx1
   have HMS:=Lib.hid (show k + 1≤n0∧n0 - (k + 1)<n0 - k by omega)
   have hgo:∀ i,Value.ownBlock (.slice (some ⟨g,o,none⟩) n0 c)=some i→¬ (O i∨S≤i):=fun i hi h=>by
    have:=HGS.out i (by rw [← HNN.out];exact hi)
    rcases h with h | h
    ·have:=hO i h;omega
    ·omega
   have HGO:=Lib.hid hgo
   obtain ⟨fn,tmps,assign,body,hy,hR⟩:=HY.out S (M.take k) (x,v) wr (n - 1) HS.out.1 HJK.out ⟨k,rfl,hx1⟩
   simp only at hy
   clear hx hx1 hmem hxw hc hgo hkM
   gi_wp2_with fail
   refine ⟨(fun h=>by cases h),hR.mono ?_⟩
   rintro e W3 ⟨rfl,hj3,ht3⟩
   have HJ3:=Lib.hid hj3
   have HT3:=Lib.hid ht3
   clear hj3 ht3 hR hy HL c0 a0
   gi_wp2_with fail
   go_roundw
   case rel=>exact ⟨k + 1,by go_num,HMS.out.1,HLW.out.tn HT3.out (fun h=>h.elim hOp (fun h=>by have:=HH.out.lt;have:=HS.out.1;omega)) (fun h=>h.elim hOb (fun h=>by have:=HH.out.own.lt;have:=HS.out.1;omega)),HO.out.tn HT3.out HGO.out,by rw [List.take_add_one,HX1.out];exact HJ3.out,Nat.le_trans HSZ.out HT3.out.size⟩
   case measure=>simp [intOf];(have:=HMS.out;omega)
  ·have z1:decide ((k:Int)<(n0:Int))=false:=decide_eq_false (by omega)
   have z2:decide (k<n0)=false:=decide_eq_false hlt
   have HKM:=Lib.hid (show M.take k=M from List.take_of_length_le (by have:=HNN.out;omega))
   gi_wp2_with fail
   go_end0
   exact ⟨⟨_,rfl⟩,S,M,HS.out.1,rfl,by have:=HJK.out;rwa [HKM.out] at this⟩
open Go.RowKit Go.Maps
attribute [local go_sem] Oper.semAt_some
theorem infoLa:(Tryz.prog.info? 169).map (fun i=>(i.zero,i.size,i.bytes))=some (some (.agg #[.int .u32 0,.int .u64 0]),2,16):=by kernel_rfl
def RetLa (w:World) (M:Pl.Mks) (e:Ending) (w':World):Prop:=∃ A c,e=.returned (.slice A M.length c)∧Rws encLs w' w'.heap.size A M.length c M∧((∀ a,A=some a→w.heap.size≤a.block)∧OwnR encLs 2 169 w' w.heap.size (.slice A M.length c) M)∧Below w.heap.size w w'
def AlI (w:World) (S:Nat) (pre:Pl.Mks) (W:World):Prop:=∃ A c,W.heap[w.heap.size]?=some (.cells #[.slice A pre.length c] 167 (0,0))∧OwnR encLs 2 169 W S (.slice A pre.length c) pre∧Below w.heap.size w W∧(pre=[]→A=none∧c=0)
theorem AlI.tn {w:World} {S:Nat} {pre:Pl.Mks} {W1 W2:World} {T:Nat→Prop} (h:AlI w S pre W1) (ht:Tn T W1 W2) (h1:¬ T w.heap.size) (h2:∀ i,S≤i→¬ T i) (h3:∀ i,T i→w.heap.size≤i):AlI w S pre W2:=by
 obtain ⟨A,c,g1,g2,g3,g4⟩:=h
 exact ⟨A,c,ht.old g1 h1,g2.tn ht (fun g hg=>h2 g (g2.lt g hg).1),ht.below g3 g3.size h3,g4⟩
def AlX (w:World) (v:Value) (S:Nat) (pre:Pl.Mks) (x:Int × Int) (a1:Act) (W:World):Prop:=AlI w S pre W∧∃ bx,S≤bx∧W.heap[bx]?=some (.cells #[.int .u32 x.1,.int .u64 x.2] 169 (0,0)) ∧
 a1={ tmps:=#[v,undef,.slice none 0 0,.pointer (some ⟨w.heap.size,0,none⟩),.pointer (some ⟨bx,0,none⟩),v,.func (.func 222) #[v] #[],.agg #[.int .u32 x.1,.int .u64 x.2],undef,undef,undef,undef,undef],defers:=[] }
set_option maxHeartbeats 2000000 in
theorem all_runs {w:World} {v:Value} {M:Pl.Mks} {Nx:Pl.Mks→Int × Int→Prop} (hM:M.length≤1000) (hNx:∀ pre x,Nx pre x→pre.length<M.length)
  (hr:∀ (O:Nat→Prop) (W:World),Below w.heap.size w W→(∀ i,O i→w.heap.size≤i∧i<W.heap.size)→Sq.Runs Tryz.prog 222 (fun l=>#[v] ++ #[.func (.yield l) #[] #[]] ++ #[]) (fun x:Int × Int=>#[.agg #[.int .u32 x.1,.int .u64 x.2]]) Nx (fun xs=>xs=M) O W) :
  Calls Tryz.prog 175 #[v] w (fun e w'=>RetLa w M e w'∧(M=[]→e=.returned (.slice none 0 0))):=by
 refine (callsIn_wide (n:=9)).1 ?_
 refine callsIn_of_wp_marks Tryz.func175 rfl trivial ?_ rfl
 simp only [Tryz.ntmps175,List.size_toArray,List.length_cons,List.length_nil,Nat.reduceAdd,Nat.reduceSub,Array.replicate_succ,Array.replicate_zero,List.push_toArray,List.append_toArray,List.nil_append,List.cons_append]
 gi_wp2
 obtain ⟨w1,hw1⟩ : ∃ z,z=w.alloc (.cells #[.slice none 0 0] 167):=⟨_,rfl⟩
 rw [← hw1]
 have hs1:w1.heap.size=w.heap.size + 1:=by rw [hw1];simp
 have hb1:Below w.heap.size w w1:=by rw [hw1];exact (Below.refl _ w).alloc (Nat.le_refl _) _
 have hbox:w1.heap[w.heap.size]?=some (.cells #[.slice none 0 0] 167 (0,0)):=by rw [hw1];exact heap_new rfl
 clear hw1
 refine Sq.wp_range (gf:=222) (la:=#[v]) (lb:=#[]) rfl (enters_of Tryz.func222 (by kernel_rfl) rfl)
  (O:=fun i=>i=w.heap.size)
  (fun W0 h0 hsz=>hr _ W0 (hb1.trans (h0.mono (by omega))) (fun i hi=>by rcases hi with h | h <;> omega))
  (fun i hi=>by omega) (fun _=>rfl) (AlI w) (AlX w v)
  ?start ?keep ?keepA ?assign ?body ?done
 case start =>
  intro W1 h1 hsz
  exact ⟨none,0,below_old h1 hbox (by omega),OwnR.nil_ _ _ _ _ _,hb1.trans (h1.mono (by omega)),fun _=>⟨rfl,rfl⟩⟩
 case keep =>
  intro S pre W1 W2 hS h ht
  exact h.tn ht (by omega) (fun i hi=>by omega) (fun i hi=>by omega)
 case keepA =>
  rintro S pre x a1 W1 W2 hS ⟨h,bx,h1,h2,e⟩ ht
  exact ⟨h.tn ht (by omega) (fun i hi=>by omega) (fun i hi=>by omega),bx,h1,ht.old h2 (by omega),e⟩
 case assign =>
  rintro m l S pre ⟨x,u⟩ W hS hSW hi hx
  have ht:Tn (fun i=>i=w.heap.size∨S≤i) W (W.alloc (.cells #[.int .u32 x,.int .u64 u] 169)):=(Tn.refl _ W).alloc _
  have hi2:AlI w S pre (W.alloc (.cells #[.int .u32 x,.int .u64 u] 169)):=hi.tn (T:=fun _=>False) (Tn.of _ ((Below.refl _ W).alloc (Nat.le_refl _) _)) (fun h=>h) (fun _ _ h=>h) (fun _ h=>h.elim)
  gi_wp2
  exact ⟨⟨hi2,W.heap.size,hSW,heap_new rfl,rfl⟩,ht⟩
 case body =>
  rintro m l S pre ⟨x,u⟩ a1 W hS hSW ⟨⟨A,c,h1,h2,h3,_⟩,bx,hbx,hcx,rfl⟩ hx
  have hpl:=hNx _ _ hx
  have hc:=cell0 (r:=[]) h1
  have hx0:=cell0 (r:=[.int .u64 u]) hcx
  have hx1:=cell1 (r:=[]) hcx
  have hsrc:Rws encLs (W.alloc (.cells #[.int .u32 x,.int .u64 u] 169)) (W.alloc (.cells #[.int .u32 x,.int .u64 u] 169)).heap.size (some ⟨W.heap.size,0,none⟩) 1 1 [(x,u)]:=((OwnR.lit (e:=169) encLs_len W [(x,u)] (by simp [maxLen])).rws encLs_len).2
  gi_wp2_with (gi_at_builtin;refine wpListIn_append_rws encLs_len encLs_one Tryz.underlying167 infoLa rfl (by decide) _ rfl _ _ rfl S A pre.length c pre rfl (h2.alloc _) _ _ 1 1 [(x,u)] rfl hsrc (by unfold maxLen;omega) (by omega) (by simp;omega) ?_;intro A2 c2 w2 h4 hg4 hat4;have ht4:Tn (fun i=>S≤i) W w2:=((Tn.refl (fun i=>S≤i) W).alloc _).grown hg4 (fun k e=>.inr (h2.lt k e).1);have hb4:=ht4.old h1 (by omega);have hc4:=cell0 (r:=[]) hb4;have hf4:=frozen_of_row w2 w.heap.size 0 _ _ hb4)
  have ht5:Tn (fun i=>i=w.heap.size) w2 (w2.setCell ⟨w.heap.size,0,none⟩ (.slice A2 (pre.length + 1) c2)):=(Tn.refl (fun i=>i=w.heap.size) w2).set_ (p:=⟨w.heap.size,0,none⟩) (Or.inr rfl) _
  refine ⟨⟨A2,c2,by rw [List.length_append];exact blk_set hb4 _,by rw [List.length_append];exact h4.tn ht5 (fun g hg=>by have:=(h4.lt g hg).1;omega),?_,fun h=>by simp at h⟩,?_⟩
  ·exact ht5.below (ht4.below h3 h3.size (fun i hi=>by omega)) (Nat.le_trans h3.size ht4.size) (fun i hi=>by omega)
  ·exact (ht4.more (fun b _ h=>Or.inr h)).trans ht5 (fun b _ h=>Or.inl h)
 case done =>
  rintro S xs W hS rfl ⟨A,c,h1,h2,h3,h9⟩ hK
  have hc:=cell0 (r:=[]) h1
  gi_wp2
  have ht:=Sq.tn_put (T:=fun i=>i=w1.heap.size) W (.deferred none) rfl
  have h5:=(h2.lower (base':=w.heap.size) (by omega)).tn ht (fun g hg=>by have:=(h2.lt g hg).1;omega)
  refine ⟨by simp,.inl ⟨_,_,rfl,run_takeDeferred hK,?_⟩⟩
  refine ⟨_,results_tmp rfl _ _ _,⟨A,c,rfl,(h5.rws encLs_len).2,⟨fun a e=>?_,h5⟩,ht.below h3 h3.size (fun i hi=>by omega)⟩,fun hm=>by
   obtain ⟨rfl,rfl⟩:=h9 hm
   rw [hm];rfl⟩
  obtain ⟨A',c',e1,_,e3⟩:=h5.shape encLs_len
  injection e1 with e2 _ _
  rw [e2] at e
  exact e3 a e
theorem all_la {w:World} {p b:Nat} {M:Pl.Mks} (h:LeasesW w p b M):Calls Tryz.prog 175 #[.pointer (some ⟨p,0,none⟩)] w (RetLa w M) :=
 (all_runs (by have:=h.few;omega) (fun pre x hx=>by
  obtain ⟨k,rfl,hk⟩:=hx
  have:=(List.getElem?_eq_some_iff.1 hk).1
  rw [List.length_take];omega) (fun O W hb hO=>rising_runs (h.then_ hb) (by have:=h.few;omega) (fun i hi=>(hO i hi).2) (fun hp=>by have:=(hO p hp).1;have:=h.lt;omega) (fun hp=>by have:=(hO b hp).1;have:=h.own.lt;omega))).mono fun _ _ h=>h.1
end Go.Proofs.YtlgdcelgkiipaaaGreat.Ls
