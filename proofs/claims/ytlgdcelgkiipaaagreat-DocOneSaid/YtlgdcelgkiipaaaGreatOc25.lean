/-
  Leases.clients over the landed text: those who are there, or are not, rising. Conditions: none but the leases'.
  Leases.Copy; Set, Drop, Copy of none. Conditions: none but the leases'.
  Expire over the landed text: those who are not there are told, and each is deleted. Conditions: none but the leases'.
  New over the landed text. Conditions: none but that the row can be read.
-/
import Derived.Test.YtlgdcelgkiipaaaGreatOc24
import Derived.Test.YtlgdcelgkiipaaaGreatShelf
set_option maxRecDepth 100000
set_option linter.unusedVariables false
namespace Go.Proofs.YtlgdcelgkiipaaaGreat.Ls
open Go.RowKit Go.Maps
attribute [local go_sem] Oper.semAt_some
theorem which_add (live:Bool) (now:Int) (pre:Pl.Mks) (x:Int × Int):Pl.whichM live now (pre ++ [x])=Pl.whichM live now pre ++ (if (decide (now<x.2) == live)=true then [x.1] else []):=by
 unfold Pl.whichM
 rw [List.filter_append,List.map_append]
 congr 1
 by_cases h:(decide (now<x.2) == live)=true
 ·rw [if_pos h];simp [h]
 ·rw [if_neg h];simp [h]
theorem which_len (live:Bool) (now:Int) (pre:Pl.Mks):(Pl.whichM live now pre).length≤pre.length:=by
 unfold Pl.whichM
 rw [List.length_map]
 exact List.length_filter_le _ _
def ClI (w:World) (live:Bool) (now:Int) (S:Nat) (pre:Pl.Mks) (W:World):Prop:=∃ A c,W.heap[w.heap.size + 2]?=some (.cells #[.slice A (Pl.whichM live now pre).length c] 80 (0,0))∧OwnCl W S (.slice A (Pl.whichM live now pre).length c) (Pl.whichM live now pre)∧Below w.heap.size w W∧(Pl.whichM live now pre=[]→A=none∧c=0) ∧
 W.heap[w.heap.size]?=some (.cells #[.int .u64 now] 27 (0,0))∧W.heap[w.heap.size + 1]?=some (.cells #[.bool live] 4 (0,0))
theorem ClI.tn {w:World} {live:Bool} {now:Int} {S:Nat} {pre:Pl.Mks} {W1 W2:World} {T:Nat→Prop} (h:ClI w live now S pre W1) (ht:Tn T W1 W2) (h1:∀ i,i<w.heap.size + 3→¬ T i) (h2:∀ i,S≤i→¬ T i):ClI w live now S pre W2:=by
 obtain ⟨A,c,g1,g2,g3,g4,g5,g6⟩:=h
 exact ⟨A,c,ht.old g1 (h1 _ (by omega)),g2.tn ht (fun g hg=>h2 g (g2.lt g hg).1),ht.below g3 g3.size (fun i hi=>Nat.le_of_not_lt (fun hn=>h1 i (by omega) hi)),g4,ht.old g5 (h1 _ (by omega)),ht.old g6 (h1 _ (by omega))⟩
def ClX (w:World) (v:Value) (live:Bool) (now:Int) (S:Nat) (pre:Pl.Mks) (x:Int × Int) (a1:Act) (W:World):Prop:=ClI w live now S pre W∧∃ bx,S≤bx∧W.heap[bx]?=some (.cells #[.int .u32 x.1,.int .u64 x.2] 169 (0,0)) ∧
 a1={ tmps:=#[v,.int .u64 now,.bool live,undef,.pointer (some ⟨w.heap.size,0,none⟩),.pointer (some ⟨w.heap.size + 1,0,none⟩),.slice none 0 0,.pointer (some ⟨w.heap.size + 2,0,none⟩),.pointer (some ⟨bx,0,none⟩),v,.func (.func 222) #[v] #[],.agg #[.int .u32 x.1,.int .u64 x.2],undef,undef,undef,undef,undef,undef,undef,undef,undef,undef,undef,undef],defers:=[] }
set_option maxHeartbeats 4000000 in
theorem clients_runs {w:World} {v:Value} {now:Int} {live:Bool} {M:Pl.Mks} {Nx:Pl.Mks→Int × Int→Prop} (hM:M.length≤1000) (hNx:∀ pre x,Nx pre x→pre.length<M.length)
  (hr:∀ (O:Nat→Prop) (W:World),Below w.heap.size w W→(∀ i,O i→w.heap.size≤i∧i<W.heap.size)→Sq.Runs Tryz.prog 222 (fun l=>#[v] ++ #[.func (.yield l) #[] #[]] ++ #[]) (fun x:Int × Int=>#[.agg #[.int .u32 x.1,.int .u64 x.2]]) Nx (fun xs=>xs=M) O W) :
  Calls Tryz.prog 188 #[v,.int .u64 now,.bool live] w fun e w'=>∃ A c,e=.returned (.slice A (Pl.whichM live now M).length c)∧OwnCl w' w.heap.size (.slice A (Pl.whichM live now M).length c) (Pl.whichM live now M)∧Below w.heap.size w w'∧(M=[]→e=.returned (.slice none 0 0)):=by
 refine (callsIn_wide (n:=9)).1 ?_
 refine callsIn_of_wp_marks Tryz.func188 rfl trivial ?_ rfl
 simp only [Tryz.ntmps188,List.size_toArray,List.length_cons,List.length_nil,Nat.reduceAdd,Nat.reduceSub,Array.replicate_succ,Array.replicate_zero,List.push_toArray,List.append_toArray,List.nil_append,List.cons_append]
 gi_wp2
 obtain ⟨w1,hw1⟩ : ∃ z,z=((w.alloc (.cells #[.int .u64 now] 27)).alloc (.cells #[.bool live] 4)).alloc (.cells #[.slice none 0 0] 80):=⟨_,rfl⟩
 rw [← hw1]
 have hs1:w1.heap.size=w.heap.size + 3:=by rw [hw1];simp
 have hba:Below w.heap.size w (w.alloc (.cells #[.int .u64 now] 27)):=(Below.refl _ w).alloc (Nat.le_refl _) _
 have hb1:Below w.heap.size w w1:=by rw [hw1];exact (hba.alloc (by simp) _).alloc (by simp;omega) _
 have hbox:w1.heap[w.heap.size + 2]?=some (.cells #[.slice none 0 0] 80 (0,0)):=by rw [hw1];exact heap_new (by simp)
 have hbox1:w1.heap[w.heap.size + 1]?=some (.cells #[.bool live] 4 (0,0)):=by
  rw [hw1]
  exact below_old ((Below.refl _ _).alloc (Nat.le_refl _) _) (heap_new (by simp)) (by simp)
 have hbox0:w1.heap[w.heap.size]?=some (.cells #[.int .u64 now] 27 (0,0)):=by
  rw [hw1]
  exact below_old ((Below.refl _ _).alloc (Nat.le_refl _) _) (below_old ((Below.refl _ _).alloc (Nat.le_refl _) _) (heap_new rfl) (by simp)) (by simp;omega)
 clear hw1 hba
 refine Sq.wp_range (gf:=222) (la:=#[v]) (lb:=#[]) rfl (enters_of Tryz.func222 (by kernel_rfl) rfl)
  (O:=fun i=>i=w.heap.size + 2)
  (fun W0 h0 hsz=>hr _ W0 (hb1.trans (h0.mono (by omega))) (fun i hi=>by rcases hi with h | h <;> omega))
  (fun i hi=>by omega) (fun _=>rfl) (ClI w live now) (ClX w v live now)
  ?start ?keep ?keepA ?assign ?body ?done
 case start =>
  intro W1 h1 hsz
  exact ⟨none,0,below_old h1 hbox (by omega),OwnR.nil_ _ _ _ _ _,hb1.trans (h1.mono (by omega)),fun _=>⟨rfl,rfl⟩,below_old h1 hbox0 (by omega),below_old h1 hbox1 (by omega)⟩
 case keep =>
  intro S pre W1 W2 hS h ht
  exact h.tn ht (fun i hi=>by omega) (fun i hi=>by omega)
 case keepA =>
  rintro S pre x a1 W1 W2 hS ⟨h,bx,h1,h2,e⟩ ht
  exact ⟨h.tn ht (fun i hi=>by omega) (fun i hi=>by omega),bx,h1,ht.old h2 (by omega),e⟩
 case assign =>
  rintro m l S pre ⟨x,u⟩ W hS hSW hi hx
  have ht:Tn (fun i=>i=w.heap.size + 2∨S≤i) W (W.alloc (.cells #[.int .u32 x,.int .u64 u] 169)):=(Tn.refl _ W).alloc _
  have hi2:ClI w live now S pre (W.alloc (.cells #[.int .u32 x,.int .u64 u] 169)):=hi.tn (T:=fun _=>False) (Tn.of _ ((Below.refl _ W).alloc (Nat.le_refl _) _)) (fun _ _ h=>h) (fun _ _ h=>h)
  gi_wp2
  exact ⟨⟨hi2,W.heap.size,hSW,heap_new rfl,rfl⟩,ht⟩
 case body =>
  rintro m l S pre ⟨x,u⟩ a1 W hS hSW ⟨⟨A,c,h1,h2,h3,h9,g5,g6⟩,bx,hbx,hcx,rfl⟩ hx
  have hpl:=hNx _ _ hx
  have hwl:=which_len live now pre
  have hwa:=which_add live now pre (x,u)
  simp only at hwa
  obtain ⟨D,hD⟩ : ∃ D,D=Pl.whichM live now pre:=⟨_,rfl⟩
  rw [← hD] at h1 h2 h9 hwl hwa
  have hc:=cell0 (r:=[]) h1
  have hx0:=cell0 (r:=[.int .u64 u]) hcx
  have hx1:=cell1 (r:=[]) hcx
  have hc5:=cell0 (r:=[]) g5
  have hc6:=cell0 (r:=[]) g6
  have hsrc:Rws encC (W.alloc (.cells #[.int .u32 x] 28)) (W.alloc (.cells #[.int .u32 x] 28)).heap.size (some ⟨W.heap.size,0,none⟩) 1 1 [x]:=((OwnR.lit (e:=28) encC_len W [x] (by simp [maxLen])).rws encC_len).2
  obtain ⟨q,hq⟩ : ∃ q,q=decide (now<u):=⟨_,rfl⟩
  rw [← hq] at hwa
  have hq2:=hq.symm
  by_cases hql:(q == live)=true
  ·rw [if_pos hql] at hwa
   have HWA:=Lib.hid hwa
   clear hwa hq hD
   gi_wp2_with (gi_at_builtin;refine wpListIn_append_rws encC_len encC_one Tryz.underlying80 infoCl rfl (by decide) _ rfl _ _ rfl S A D.length c D rfl (h2.alloc _) _ _ 1 1 [x] rfl hsrc (by unfold maxLen;omega) (by omega) (by simp;omega) ?_;intro A2 c2 w2 h4 hg4 hat4;have ht4:Tn (fun i=>S≤i) W w2:=((Tn.refl (fun i=>S≤i) W).alloc _).grown hg4 (fun k e=>.inr (h2.lt k e).1);have hb4:=ht4.old h1 (by omega);have hc4:=cell0 (r:=[]) hb4;have hf4:=frozen_of_row w2 (w.heap.size + 2) 0 _ _ hb4)
   have ht5:Tn (fun i=>i=w.heap.size + 2) w2 (w2.setCell ⟨w.heap.size + 2,0,none⟩ (.slice A2 (D.length + 1) c2)):=(Tn.refl (fun i=>i=w.heap.size + 2) w2).set_ (p:=⟨w.heap.size + 2,0,none⟩) (Or.inr rfl) _
   have hz:(D ++ [x]).length=D.length + 1:=by rw [List.length_append];rfl
   refine ⟨⟨A2,c2,by rw [HWA.out,hz];exact blk_set hb4 _,by rw [HWA.out,hz];exact OwnR.tn h4 ht5 (fun g hg=>by have:=(h4.lt g hg).1;omega),?_,fun h=>by rw [HWA.out] at h;simp at h,ht5.old (ht4.old g5 (by omega)) (by omega),ht5.old (ht4.old g6 (by omega)) (by omega)⟩,?_⟩
   ·exact ht5.below (ht4.below h3 h3.size (fun i hi=>by omega)) (Nat.le_trans h3.size ht4.size) (fun i hi=>by omega)
   ·exact (ht4.more (fun b _ h=>Or.inr h)).trans ht5 (fun b _ h=>Or.inl h)
  ·rw [if_neg hql,List.append_nil] at hwa
   have hql2:(q == live)=false:=by simpa using hql
   have HWA:=Lib.hid hwa
   clear hwa hq hD hql
   gi_wp2
   exact ⟨⟨A,c,by rw [HWA.out];exact h1,by rw [HWA.out];exact h2,h3,fun h=>h9 (by rw [← HWA.out];exact h),g5,g6⟩,Tn.refl _ _⟩
 case done =>
  rintro S xs W hS rfl ⟨A,c,h1,h2,h3,h9,g5,g6⟩ hK
  have hc:=cell0 (r:=[]) h1
  gi_wp2
  have ht:=Sq.tn_put (T:=fun i=>i=w1.heap.size) W (.deferred none) rfl
  have h5:=(OwnR.lower h2 (base':=w.heap.size) (by omega)).tn ht (fun g hg=>by have:=(h2.lt g hg).1;omega)
  refine ⟨by simp,.inl ⟨_,_,rfl,run_takeDeferred hK,?_⟩⟩
  exact ⟨_,results_tmp rfl _ _ _,A,c,rfl,h5,ht.below h3 h3.size (fun i hi=>by omega),fun hm=>by
   obtain ⟨rfl,rfl⟩:=h9 (by rw [hm];rfl)
   rw [hm];rfl⟩
theorem clients_any {w:World} {p b:Nat} {M:Pl.Mks} (h:LeasesW w p b M) (now:Int) (live:Bool) :
  Calls Tryz.prog 188 #[.pointer (some ⟨p,0,none⟩),.int .u64 now,.bool live] w fun e w'=>∃ A c,e=.returned (.slice A (Pl.whichM live now M).length c)∧OwnCl w' w.heap.size (.slice A (Pl.whichM live now M).length c) (Pl.whichM live now M)∧Below w.heap.size w w' :=
 (clients_runs (by have:=h.few;omega) (fun pre x hx=>by
  obtain ⟨k,rfl,hk⟩:=hx
  have:=(List.getElem?_eq_some_iff.1 hk).1
  rw [List.length_take];omega) (fun O W hb hO=>rising_runs (h.then_ hb) (by have:=h.few;omega) (fun i hi=>(hO i hi).2) (fun hp=>by have:=(hO p hp).1;have:=h.lt;omega) (fun hp=>by have:=(hO b hp).1;have:=h.own.lt;omega))).mono fun _ _ ⟨A,c,h1,h2,h3,_⟩=>⟨A,c,h1,h2,h3⟩
open Go.RowKit
theorem cloneL {w:World} {b:Nat} {M:Pl.Mks} (h:w.ownsMap Tryz.prog 28 (plainElem (H:=Unit) Tryz.prog 27) b M.length (datL M)) :
  Calls Tryz.prog 141 #[.map (some b)] w fun e w'=>e=.returned (.map (some w.heap.size))∧w'.ownsMap Tryz.prog 28 (plainElem (H:=Unit) Tryz.prog 27) w.heap.size M.length (datL M)∧Below w.heap.size w w' :=
 (AnyW.maps_Clone_owns Tryz.laysClone 28 _ b _ _ w h).mono fun _ _ ⟨h1,h2,_,h4⟩=>⟨h1,h2,h4⟩
set_option maxHeartbeats 400000 in
theorem copy_any {w:World} {p b:Nat} {M:Pl.Mks} (h:LeasesW w p b M):Calls Tryz.prog 59 #[.pointer (some ⟨p,0,none⟩)] w fun e w'=>∃ q b',e=.returned (.pointer (some ⟨q,0,none⟩))∧w.heap.size≤q∧w.heap.size≤b'∧LeasesW w' q b' M∧Below w.heap.size w w':=by
 have HN:=Lib.hid (none_leases h)
 have HC:=Lib.hid (cloneL h.own)
 have HK:=Lib.hid (And.intro h.ok h.few)
 have c0:=h.cell
 clear h
 go_enter Tryz.func59,Tryz.ntmps59
 go_wp2_with fail
 refine HN.out.mono ?_
 rintro e w' ⟨rfl,hw⟩
 rw [hw]
 clear hw w'
 go_wp2_with fail
 refine HC.out.mono ?_
 rintro e w1 ⟨rfl,ho,hb⟩
 have HO:=Lib.hid ho
 have HB:=Lib.hid hb
 clear ho hb HC c0
 go_wp2_with fail
 go_ret
 exact ⟨_,_,rfl,HB.out.size,Nat.le_refl _,⟨heap_new rfl,HO.out.alloc _,HK.out.1,HK.out.2⟩,below_alloc HB.out _⟩
open Go.RowKit
theorem drops_add {M:Pl.Mks} {G:List Int} {j:Nat} {x:Int} (h:G[j]?=some x):Pl.dropsM M (G.take (j + 1))=Pl.delM (Pl.dropsM M (G.take j)) x:=by
 unfold Pl.dropsM
 rw [List.take_add_one,h,List.foldl_append]
 rfl
def EpI (w5:World) (p b base:Nat) (A:Option Addr) (n c:Nat) (M:Pl.Mks) (G:List Int) (i:Value) (wr:World):Prop:=∃ j:Nat,i=.int .i64 (j:Int)∧j≤n∧OwnCl wr base (.slice A n c) G∧LeasesW wr p b (Pl.dropsM M (G.take j))∧Tn (fun i=>i=b) w5 wr
set_option maxHeartbeats 2000000 in
theorem expire_any {w:World} {p b:Nat} {M:Pl.Mks} (h:LeasesW w p b M) (now:Int) (_:0≤now):Calls Tryz.prog 144 #[.pointer (some ⟨p,0,none⟩),.int .u64 now] w fun e w'=>∃ A c,e=.returned (.slice A (Pl.whichM false now M).length c)∧OwnCl w' w.heap.size (.slice A (Pl.whichM false now M).length c) (Pl.whichM false now M)∧LeasesW w' p b (Pl.thereM now M)∧Tn (fun i=>i=b) w w':=by
 have HA:=Lib.hid (clients_any h now false)
 have HL:=Lib.hid h
 have HD:=Lib.hid (Pl.drops_which h.ok.up now)
 have hkeys:∀ x ∈ Pl.whichM false now M,0≤x∧x<4294967296:=fun x hx=>by
  unfold Pl.whichM at hx
  obtain ⟨q,hq,rfl⟩:=List.mem_map.1 hx
  exact h.ok.key q (List.mem_filter.1 hq).1
 have hn9:(Pl.whichM false now M).length≤1000:=Nat.le_trans (which_len false now M) (by have:=h.few;omega)
 obtain ⟨G,hG⟩ : ∃ G,G=Pl.whichM false now M:=⟨_,rfl⟩
 rw [← hG] at HA HD hkeys hn9 ⊢
 obtain ⟨n,hn⟩ : ∃ n,n=G.length:=⟨_,rfl⟩
 rw [← hn] at HA hn9 ⊢
 have HN:=Lib.hid hn
 have HK:=Lib.hid hkeys
 clear h hn hkeys hG
 go_enter Tryz.func144,Tryz.ntmps144
 go_wp2_with fail
 refine HA.out.mono ?_
 rintro e w5 ⟨A,c,rfl,ho5,hb5⟩
 have HO5:=Lib.hid ho5
 have HB5:=Lib.hid hb5
 have HL5:=Lib.hid (HL.out.then_ hb5)
 have HBW:=Lib.hid (show b<w.heap.size from HL.out.own.lt)
 clear ho5 hb5 HA
 go_wp2_with fail
 go_loopw [13] (fun i wr=>EpI w5 p b w.heap.size A n c M G i wr) (fun i _=>n - (intOf i).toNat)
 case atStart=>exact ⟨0,rfl,Nat.zero_le _,HO5.out,HL5.out,Tn.refl _ _⟩
 case round =>
  obtain ⟨j,rfl,hj,ho,hl,ht⟩:=hrel
  have HO:=Lib.hid ho
  have HLJ:=Lib.hid hl
  have HT:=Lib.hid ht
  clear ho hl ht
  by_cases hlt:j<n
  ·have hjG:j<G.length:=by rw [← HN.out];exact hlt
   obtain ⟨y,hy⟩ : ∃ y,y=G[j]:=⟨_,rfl⟩
   have hy1:G[j]?=some y:=by rw [List.getElem?_eq_getElem hjG,hy]
   have hky:=HK.out y (by rw [hy];exact List.getElem_mem hjG)
   obtain ⟨g,o,hA,_,hc⟩:=Rws.at_ encC_len (OwnR.rws encC_len HO.out).2 hlt
   have a0:=hc j hlt 0 _ (by decide) rfl
   rw [show G.getD j default=y by rw [List.getD_eq_getElem?_getD,hy1];rfl] at a0
   subst hA
   simp only [Nat.mul_one,Nat.add_zero] at a0
   have z0:(0:Int)≤(j:Int):=Int.natCast_nonneg _
   have z1:(j:Int)<(n:Int):=Int.ofNat_lt.2 hlt
   have HMS:=Lib.hid (show n - (j + 1)<n - j by omega)
   have HG:=Lib.hid (drops_add (M:=M) hy1)
   have c0:=HLJ.out.cell
   have hown:=HLJ.out.own
   have hkey:=keyC hky
   clear hc hy hy1 hjG hky
   go_wp2_with (at_delete;refine wpList_delete_own _ rfl _ _ 168 28 rfl 27 keyedC Tryz.underlying168 _ _ _ _ rfl hown _ _ rfl hkey ?_;intro w1 hown1 hturn1)
   rw [delL_dat] at hown1
   have ht:=turned_tn hturn1
   have hgb:∀ i,Value.ownBlock (.slice (some ⟨g,o,none⟩) n c)=some i→¬ i=b:=fun i hi e=>by
    have h1:=(OwnR.lt HO.out i hi).1
    have h2:=HBW.out
    omega
   go_roundw
   case rel=>exact ⟨j + 1,by go_num,hlt,OwnR.tn HO.out ht hgb,by rw [HG.out];exact ⟨ht.old HLJ.out.blk HLJ.out.ne,own_tight hown1,HLJ.out.ok.del y,Nat.le_trans (Pl.len_del_le _ _) HLJ.out.few⟩,HT.out.trans ht (fun _ _ h=>h)⟩
   case measure=>simp [intOf];(have:=HMS.out;omega)
  ·have hjn:j=n:=by omega
   have he:G.take j=G:=by rw [hjn,HN.out,List.take_length]
   rw [he,HD.out] at HLJ
   have HTZ:=Lib.hid ((Tn.of (fun i=>i=b) HB5.out).trans HT.out (fun _ _ h=>h))
   clear he
   go_wp2_with fail
   go_ret
   exact ⟨A,c,rfl,HO.out,HLJ.out,HTZ.out⟩
open Go.RowKit
def RetNl0 (w:World) (l:Pl.Mks) (e:Ending) (w':World):Prop :=
 (Lp.newL l=0→∃ p b,e=.returned (.tuple #[.pointer (some ⟨p,0,none⟩),.int .i64 0])∧w.heap.size≤p∧w.heap.size≤b∧LeasesW w' p b (Pl.makeM l []).2)∧(Lp.newL l≠0→e=.returned (.tuple #[.pointer none,.int .i64 (Lp.newL l)]))∧Below w.heap.size w w'
theorem RetNl0.bad {w w':World} {l M:Pl.Mks} (h:Pl.makeM l []=(1,M)) (hb:Below w.heap.size w w'):RetNl0 w l (.returned (.tuple #[.pointer none,.int .i64 1])) w':=by
 have e:Lp.newL l=1:=by unfold Lp.newL;rw [h];exact if_pos (by simp)
 refine ⟨fun h0=>?_,fun _=>by rw [e],hb⟩
 rw [e] at h0
 cases h0
theorem RetNl0.full {w w':World} {l M:Pl.Mks} (h:Pl.makeM l []=(0,M)) (hl:16<l.length) (hb:Below w.heap.size w w'):RetNl0 w l (.returned (.tuple #[.pointer none,.int .i64 7])) w':=by
 have e:Lp.newL l=7:=by unfold Lp.newL;rw [h,if_neg (by simp),if_pos hl]
 refine ⟨fun h0=>?_,fun _=>by rw [e],hb⟩
 rw [e] at h0
 cases h0
theorem RetNl0.good {w w':World} {l M:Pl.Mks} {p b:Nat} (h:Pl.makeM l []=(0,M)) (hl:¬ 16<l.length) (hp:w.heap.size≤p) (hb2:w.heap.size≤b) (hL:LeasesW w' p b M) (hb:Below w.heap.size w w'):RetNl0 w l (.returned (.tuple #[.pointer (some ⟨p,0,none⟩),.int .i64 0])) w':=by
 have e:Lp.newL l=0:=by unfold Lp.newL;rw [h,if_neg (by simp),if_neg hl]
 refine ⟨fun _=>⟨p,b,rfl,hp,hb2,?_⟩,fun h0=>absurd e h0,hb⟩
 rw [h]
 exact hL
theorem len_put_new {M:Pl.Mks} {c v:Int} (hg:Pl.getM M c=none):(Pl.putM M c v).length=M.length + 1:=by
 unfold Pl.putM
 rw [Pl.len_ins]
 congr 1
 unfold Pl.delM
 rw [List.filter_eq_self.2 fun p hp=>?_]
 unfold Pl.getM at hg
 rw [Option.map_eq_none_iff,List.find?_eq_none] at hg
 simpa using hg p hp
def NwL (w:World) (b n:Nat) (l:Pl.Mks) (i:Value) (wr:World):Prop:=∃ (j:Nat) (M:Pl.Mks),i=.int .i64 (j:Int)∧j≤n∧wr.ownsMap Tryz.prog 28 (plainElem (H:=Unit) Tryz.prog 27) b M.length (datL M)∧Lp.LsOk M∧Pl.makeM l []=Pl.makeM (l.drop j) M∧Below w.heap.size w wr∧M.length=j
set_option maxHeartbeats 1000000 in
theorem new_any0 {w:World} {A:Option Addr} {n c:Nat} {l:Pl.Mks} (h:Rws encLs w w.heap.size A n c l) (hs:n≤1000) (hl:∀ o ∈ l,(0≤o.1∧o.1<4294967296)∧0≤o.2) :
  Calls Tryz.prog 42 #[.slice A n c] w (RetNl0 w l):=by
 have HR:=Lib.hid h
 have HL:=Lib.hid hl
 have hmm:=@run_makeMap Tryz.prog
 clear h hl
 go_enter Tryz.func42,Tryz.ntmps42
 go_wp2_with fail
 have HX:=Lib.hid (show NwL w w.heap.size n l (.int .i64 ((0:Nat):Int)) (w.alloc (.map #[] 0)) from ⟨0,[],rfl,Nat.zero_le _,World.ownsMap_made w _ _ _,Lp.LsOk.nil,rfl,below_alloc (Below.refl _ _) _,rfl⟩)
 generalize w.alloc (.map #[] 0)=W1 at HX ⊢
 clear hmm
 go_loopw [12] (fun i wr=>NwL w w.heap.size n l i wr) (fun i _=>n - (intOf i).toNat)
 case atStart=>exact HX.out
 case round =>
  obtain ⟨j,M,rfl,hj,ho,hok,hmk,hb,hmj⟩:=hrel
  have HMJ:=Lib.hid hmj
  clear hmj
  have HO:=Lib.hid ho
  have HK:=Lib.hid hok
  have HB:=Lib.hid hb
  by_cases hlt:j<n
  ·have hjL:j<l.length:=by rw [HR.out.len];exact hlt
   obtain ⟨g,o,rfl,_,hc⟩:=Rws.at_ encLs_len (Rws.then_ HR.out hb) hlt
   have a0:=hc j hlt 0 _ (by decide) rfl
   have a1:=hc j hlt 1 _ (by decide) rfl
   have hbd:=HL.out _ (Pl.getD_mem hjL)
   rw [make_at hjL] at hmk
   obtain ⟨⟨y,v⟩,hy⟩ : ∃ p,p=l.getD j default:=⟨_,rfl⟩
   rw [← hy] at a0 a1 hbd hmk
   simp only [Nat.add_zero,← Nat.add_assoc] at a0 a1 hbd hmk
   have z0:(0:Int)≤(j:Int):=Int.natCast_nonneg _
   have z1:(j:Int)<(n:Int):=Int.ofNat_lt.2 hlt
   have HMS:=Lib.hid (show n - (j + 1)<n - j by omega)
   have HBa:=Lib.hid (below_alloc HB.out (.cells #[.int .u32 y,.int .u64 v] 169))
   have hoa:=HO.out.alloc (.cells #[.int .u32 y,.int .u64 v] 169)
   have hlk:=look_ok hoa hbd.1
   cases hg:Pl.getM M y with
   | some u =>
    rw [hg] at hmk hlk
    rw [if_pos (show (some u).isSome=true∨1099511627840<v from Or.inl rfl)] at hmk
    have HMK:=Lib.hid hmk
    clear hc hy ho hok hb hmk hjL hbd hg hoa hlt hj
    go_wp2_with fail
    go_returns
    exact RetNl0.bad HMK.out HBa.out
   | none =>
    rw [hg] at hmk hlk
    by_cases hv:1099511627840<v
    ·rw [if_pos (show (none:Option Int).isSome=true∨1099511627840<v from Or.inr hv)] at hmk
     have HMK:=Lib.hid hmk
     have y1:decide (v > 1099511627840)=true:=decide_eq_true hv
     have y2:decide (1099511627840<v)=true:=decide_eq_true hv
     clear hc hy ho hok hb hmk hjL hbd hg hoa hlt hj hv
     go_wp2_with fail
     go_returns
     exact RetNl0.bad HMK.out HBa.out
    ·rw [if_neg (show ¬ ((none:Option Int).isSome=true∨1099511627840<v) from fun h=>h.elim (fun h=>by cases h) hv)] at hmk
     have y1:decide (v > 1099511627840)=false:=decide_eq_false hv
     have y2:decide (1099511627840<v)=false:=decide_eq_false hv
     obtain ⟨w6,hst,ho6,ht6⟩:=storeL hoa hok.len hbd.1 (v:=v) (by omega)
     have HMK:=Lib.hid hmk
     have HO6:=Lib.hid ho6
     have HK6:=Lib.hid (hok.put hbd.1 (show 0≤v∧v≤1099511627840 by omega))
     have HL6:=Lib.hid (show (Pl.putM M y v).length=j + 1 by rw [len_put_new hg,HMJ.out])
     have HB6:=Lib.hid (ht6.below HBa.out HBa.out.size (fun i e=>by rw [e];exact Nat.le_refl _))
     clear hc hy ho hok hb hmk hjL hbd hg hoa hj hv ho6 ht6
     go_wp2_with fail
     go_roundw
     case rel=>exact ⟨j + 1,Pl.putM M y v,by go_num,hlt,HO6.out,HK6.out,HMK.out,HB6.out,HL6.out⟩
     case measure=>simp [intOf];(have:=HMS.out;omega)
  ·have hjn:j=n:=by omega
   rw [hjn,List.drop_of_length_le (by rw [HR.out.len];exact Nat.le_refl _)] at hmk
   have HMK:=Lib.hid (show Pl.makeM l []=(0,M) from hmk)
   have HLN:=Lib.hid HR.out.len
   have hln:=fun ty=>HO.out.len Tryz.underlying168 ty
   simp only [sizeL_dat,HMJ.out,hjn] at hln
   by_cases hf:16<n
   ·have y1:decide ((n:Int) > 16)=true:=decide_eq_true (by omega)
    have y2:decide ((16:Int)<(n:Int))=true:=decide_eq_true (by omega)
    have HF:=Lib.hid (show 16<l.length by rw [HR.out.len];exact hf)
    clear ho hok hb hmk hf
    go_wp2_with fail
    go_returns
    exact RetNl0.full HMK.out HF.out HB.out
   ·have y1:decide ((n:Int) > 16)=false:=decide_eq_false (by omega)
    have y2:decide ((16:Int)<(n:Int))=false:=decide_eq_false (by omega)
    have HF:=Lib.hid (show ¬ 16<l.length by rw [HR.out.len];exact hf)
    have HF16:=Lib.hid (show M.length≤16 by rw [HMJ.out,hjn];omega)
    clear ho hok hb hmk hf
    go_wp2_with fail
    go_returns
    exact RetNl0.good HMK.out HF.out HB.out.size (Nat.le_refl _) ⟨heap_new rfl,HO.out.alloc _,HK.out,HF16.out⟩ (below_alloc HB.out _)
end Go.Proofs.YtlgdcelgkiipaaaGreat.Ls
