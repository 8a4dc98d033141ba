/-
  What all calls of a client who has to be at the document have in common (at). Conditions: those that it states.
  doc's tell; Open. Conditions: those that each states.
-/
import Derived.Test.YtlgdcelgkiipaaaGreatOc34
import Derived.BigQuiet
import Derived.Deep.QuietTactic
import Derived.Deep.RegionHeld3
set_option maxRecDepth 100000
set_option linter.unusedVariables false
namespace Go.Proofs.YtlgdcelgkiipaaaGreat
open Go.RowKit
open Pl (Un)
def allocs (w:World):List Obj→World
 | []=>w
 | o :: r=>allocs (w.alloc o) r
theorem allocs_below:∀ (l:List Obj) (w:World),Below w.heap.size w (allocs w l)
 | [],_=>Below.refl _ _
 | o :: r,w=>below_then (below_box w o) (allocs_below r _)
theorem allocs_at:∀ (l:List Obj) (w:World) (i:Nat) (o:Obj),l[i]?=some o→(allocs w l).heap[w.heap.size + i]?=some o
 | [],_,_,_,h=>by simp at h
 | x :: r,w,0,o,h=>by
  simp at h;subst h
  exact below_old (allocs_below r _) (heap_alloc_new w x) (lt_of_block (heap_alloc_new w x))
 | x :: r,w,i + 1,o,h=>by
  have:=allocs_at r (w.alloc x) i o (by simpa using h)
  rw [show (w.alloc x).heap.size=w.heap.size + 1 by simp] at this
  rwa [show w.heap.size + (i + 1)=w.heap.size + 1 + i by omega]
theorem box_mv {k k':Nat→Nat} {w w0 w':World} {b:Nat} {o:Obj} (h:Mv k w0 k' w') (hb:w0.heap[b]?=some o) (hk:∀ b,k b≠0→b<w.heap.size) (hw:w.heap.size≤b):w'.heap[b]?=some o :=
 h.old hb (by
  rcases Nat.eq_zero_or_pos (k b) with h | h
  ·exact h
  ·have:=hk b (by omega);omega)
theorem quiet_of {P:Program} {f:FuncId} {args:Array Value} {w:World} {n:Nat} {v:Value}
  (h:Calls P f args (w.drewN n) fun e w'=>e=.returned v∧w'=w.drewN n):Calls P f args (w.drewN n) fun e w''=>e=.returned v∧∃ m,w''=w.drewN m :=
 h.mono fun _ _ ⟨he,hm⟩=>⟨he,n,hm⟩
section
variable {w w':World} {D pa tx ls mk m:Nat} {k:Nat→Nat} {N:Int} {d:Pl.Dc}
theorem DocM.drewN (h:DocM w D pa tx ls mk k N d m) (n:Nat):DocM (w.drewN n) D pa tx ls mk k N d m:=h.then_ (below_drewN _ _)
theorem DocM.live (h:DocM w D pa tx ls mk k N d m) {c:Int} (hc:0≤c∧c<4294967296) (now:Int) (h0:0≤now) :
  Calls Tryz.prog 63 #[.pointer (some ⟨ls,0,none⟩),.int .u32 c,.int .u64 now] w fun e w'=>e=.returned (.bool (Pl.liveM d.L c now))∧w'=w:=by
 obtain ⟨lb,hl,_⟩:=h.les
 exact Ls.live_any hl hc now h0
theorem OwnD.from_ {w0:World} {al:Nat} {dd:Pl.Dc × Pl.An} {e:Ending} (h:OwnD w0 D pa tx ls mk al k m dd e w') (hb:Below w.heap.size w w0):OwnD w D pa tx ls mk al k m dd e w':=by
 obtain ⟨k',m',h1,h2,h3,h4,h5,h6⟩:=h
 refine ⟨k',m',h1,h2,h3,(Tn.of (fun b=>k b≠0∨b=al) hb).trans h4 (fun _ _ h=>h),fun b h=>h5 b (Nat.lt_of_lt_of_le h hb.size),fun he=>?_⟩
 obtain ⟨A,n,c,A2,n2,c2,A3,n3,c3,h7,h8⟩:=h6 he
 exact ⟨A,n,c,A2,n2,c2,A3,n3,c3,h7,h8.more fun b h=>⟨Nat.le_trans hb.size h.1,h.2⟩⟩
theorem OwnD.bad (h:DocM w D pa tx ls mk k d.cs.length d m) (al:Nat) {E:Int} (hE:E≠0) (hb:Below w.heap.size w w'):OwnD w D pa tx ls mk al k m (d,Pl.fails E) (.returned (.int .i64 E)) w' :=
 ⟨k,m,rfl,h.then_ hb,Nat.le_add_right _ _,Tn.of _ hb,fun _ _=>rfl,fun h=>absurd h hE⟩
set_option maxHeartbeats 1000000 in
theorem at1_any (h:DocM w D pa tx ls mk k d.cs.length d m) (now:Int) (h0:0≤now) {c:Int} (hc:0≤c∧c<4294967296) (gf:FuncId) (caps:Array Value) (dd:Pl.Dc × Pl.An) (al b0 b1 b2 b3:Nat)
  (hfun:∀ args w,(callFunc gf args).run Tryz.prog w=.ok (.enter gf args) w)
  (e0:w.heap[b0]?=some (.cells #[.pointer (some ⟨D,0,none⟩)] 23 (0,0))) (e1:w.heap[b1]?=some (.cells #[.int .u32 c] 28 (0,0))) (e2:w.heap[b2]?=some (.cells #[.int .u64 now] 27 (0,0)))
  (e3:w.heap[b3]?=some (.cells #[.func (.func gf) #[] caps] 113 (0,0)))
  (hf:∀ w1,Below w.heap.size w w1→Pl.liveM d.L c now=true→Calls Tryz.prog gf (#[.pointer (some ⟨al,0,none⟩)] ++ caps) w1 (OwnD w1 D pa tx ls mk al k m dd)) :
  Calls Tryz.prog 145 #[.pointer (some ⟨al,0,none⟩),.pointer (some ⟨b0,0,none⟩),.pointer (some ⟨b1,0,none⟩),.pointer (some ⟨b2,0,none⟩),.pointer (some ⟨b3,0,none⟩)] w (OwnD w D pa tx ls mk al k m (if Pl.liveM d.L c now=true then dd else (d,Pl.fails 36))):=by
 obtain ⟨R,hR⟩ : ∃ R,R=OwnD w D pa tx ls mk al k m (if Pl.liveM d.L c now=true then dd else (d,Pl.fails 36)):=⟨_,rfl⟩
 rw [← hR]
 have HR:=Lib.hid hR
 obtain ⟨lv,hlv⟩ : ∃ lv,lv=Pl.liveM d.L c now:=⟨_,rfl⟩
 have HV:=Lib.hid (fun n=>(h.drewN n).live hc now h0)
 rw [← hlv] at HV hf HR
 have HF:=Lib.hid hf
 have HH:=Lib.hid h
 obtain ⟨d0,d1,d2,d3,d4⟩:=h.cells
 have x0:=cell0 (r:=[]) e0
 have x1:=cell0 (r:=[]) e1
 have x2:=cell0 (r:=[]) e2
 have HX:=Lib.hid e3
 clear h hf hR hlv e0 e1 e2 e3
 go_enter Tryz.func145,Tryz.ntmps145
 go_wp2_with fail
 go_quiet ((go_at_call 63;exact quiet_of (HV.out _)))
 obtain ⟨wq,hwq⟩ : ∃ x,x=w.drewN nq:=⟨_,rfl⟩
 rw [← hwq]
 have HBQ:=Lib.hid (show Below w.heap.size w wq by rw [hwq];exact below_drewN _ _)
 clear hwq d0 d1 d2 d3 d4 x0 x1 x2 HV
 cases lv with
 | false =>
  go_wp2_with fail
  rw [HR.out]
  exact OwnD.bad HH.out al (by decide) HBQ.out
 | true =>
  have x3:=cell0 (r:=[]) (below_old HBQ.out HX.out (lt_of_block HX.out))
  have HC:=Lib.hid (HF.out wq HBQ.out rfl)
  clear HF
  go_wp2_with fail
  refine HC.out.mono ?_
  rintro e w7 h7
  have H7:=Lib.hid h7
  obtain ⟨k7,m7,rfl,_⟩:=h7
  clear HC
  go_wp2_with fail
  rw [HR.out]
  exact H7.out.from_ HBQ.out
theorem DocR.end_ {W0 W2:World} {r m':Nat} {k':Nat→Nat} {dd:Pl.Dc × Pl.An} {A:Option Addr} {n c:Nat} {A2:Option Addr} {n2 c2:Nat} {A3:Option Addr} {n3 c3:Nat} (hk:∀ b,k b≠0→b<w.heap.size) (hb:Below w.heap.size w W0) (h0:w.heap.size≤r) (h1:r<W0.heap.size)
  (hd:DocM W2 D pa tx ls mk k' dd.1.cs.length dd.1 m') (hm:m'≤m + 256) (hv:Mv k W0 k' W2) (hA:AnR W2 (fun b=>W0.heap.size≤b∧k' b=0) A n c A2 n2 c2 A3 n3 c3 dd.2) (v0 v1 v2 v3 v4 v5 v6:Value) :
  DocR w D pa tx ls mk k m dd (.returned (aval dd.2.e (dd.2.rev:Int) dd.2.whole A n c A2 n2 c2 A3 n3 c3)) (seven W2 r v0 v1 v2 v3 v4 v5 v6):=by
 have hkr:k' r=0:=(hv.eq r h1).trans (by
  rcases Nat.eq_zero_or_pos (k r) with h | h
  ·exact h
  ·have:=hk r (by omega);omega)
 have tt:=tn_seven W2 r v0 v1 v2 v3 v4 v5 v6
 have hz:=hb.size
 have hmv:=(Mv.of k hb).trans hv
 refine ⟨k',m',_,rfl,hd.tn tt (fun b hb h=>hb (by rw [h];exact hkr)),hm,⟨hmv.tn.trans tt (fun b hb h=>by omega),hmv.eq⟩,⟨A,n,c,A2,n2,c2,A3,n3,c3,rfl,(hA.tn tt (fun b hb h=>by have:=hb.1;omega)).more fun b hb=>⟨by have:=hb.1;omega,hb.2⟩⟩⟩
theorem DocM.nine (h:DocM w D pa tx ls mk k N d m) {X:Nat→Prop} (hX:∀ b,X b→k b=0∧b<w.heap.size):DocM w D pa tx ls mk (paint_ k X 9) N d m:=by
 have hno:∀ {b e:Nat},k b=e→e≠0→¬ X b:=fun h1 h2 h3=>h2 (h1.symm.trans (hX _ h3).1)
 have hz:∀ {b e:Nat},k b=e→e≠0→paint_ k X 9 b=e:=fun h1 h2=>paint_is h1 (hno h1 h2)
 obtain ⟨t,h1,h2⟩:=h.tab
 obtain ⟨lb,h3,h4⟩:=h.les
 obtain ⟨mb,h5,h6⟩:=h.mks
 refine ⟨h.blk,h.past.more (fun b hb=>hz hb (by decide)) (by rw [hz h.kp (by decide)];decide),⟨t,h1.wider (fun b hb=>hz hb (by decide)) (fun b hb=>?_),h2⟩,⟨lb,h3,hz h4 (by decide)⟩,⟨mb,h5,hz h6 (by decide)⟩,hz h.kD (by decide),hz h.kp (by decide),hz h.kl (by decide),hz h.km (by decide),fun b hb=>?_⟩
 all_goals
  by_cases hx:X b
  ·exact (hX b hx).2
  ·have hb':=hb
   rw [paint_off hx] at hb'
   exact h.lt b (by first | exact hb' | (rw [hb'];decide))
theorem DocM.tn9 (h:DocM w D pa tx ls mk k N d m) {T:Nat→Prop} (ht:Tn T w w') (hT:∀ b,T b→k b=9):DocM w' D pa tx ls mk k N d m:=by
 obtain ⟨t,h1,h2⟩:=h.tab
 obtain ⟨lb,h3,h4⟩:=h.les
 obtain ⟨mb,h5,h6⟩:=h.mks
 have hz:∀ {b c:Nat},k b=c→c≠9→¬ T b:=fun e hc hb=>hc (e.symm.trans (hT _ hb))
 exact ⟨ht.old h.blk (hz h.kD (by decide)),h.past.tn ht (fun b hb=>hz hb (by decide)) (hz h.kp (by decide)),⟨t,h1.keep ht fun b hb=>hz hb (by decide),h2⟩,
  ⟨lb,h3.tn ht (hz h.kl (by decide)) (hz h4 (by decide)),h4⟩,⟨mb,h5.tn ht (hz h.km (by decide)) (hz h6 (by decide)),h6⟩,h.kD,h.kp,h.kl,h.km,fun b hb=>Nat.lt_of_lt_of_le (h.lt b hb) ht.size⟩
theorem DocR.end9 {W0 W2:World} {r m':Nat} {k':Nat→Nat} {X:Nat→Prop} {dd:Pl.Dc × Pl.An} {A:Option Addr} {n c:Nat} {A2:Option Addr} {n2 c2:Nat} {A3:Option Addr} {n3 c3:Nat} (hk:∀ b,k b≠0→b<w.heap.size) (hb:Below w.heap.size w W0) (h0:w.heap.size≤r) (h1:r<W0.heap.size) (hX:∀ b,X b→w.heap.size≤b) (hr:¬ X r)
  (hd:DocM W2 D pa tx ls mk k' dd.1.cs.length dd.1 m') (hm:m'≤m + 256) (hv:Mv (paint_ k X 9) W0 k' W2) (hA:AnR W2 (fun b=>W0.heap.size≤b∧k' b=0) A n c A2 n2 c2 A3 n3 c3 dd.2) (v0 v1 v2 v3 v4 v5 v6:Value) :
  DocR w D pa tx ls mk k m dd (.returned (aval dd.2.e (dd.2.rev:Int) dd.2.whole A n c A2 n2 c2 A3 n3 c3)) (seven W2 r v0 v1 v2 v3 v4 v5 v6):=by
 have hkr:k' r=0:=(hv.eq r h1).trans ((paint_off hr).trans (by
  rcases Nat.eq_zero_or_pos (k r) with h | h
  ·exact h
  ·have:=hk r (by omega);omega))
 have tt:=tn_seven W2 r v0 v1 v2 v3 v4 v5 v6
 have hz:=hb.size
 have hold:∀ b,b<w.heap.size→paint_ k X 9 b=k b:=fun b hb=>paint_off fun hx=>by have:=hX b hx;omega
 have hmv:Tn (fun b=>k b≠0) w W2:=(Tn.of (fun b=>k b≠0) hb).trans hv.tn fun b hb h=>by rw [← hold b hb];exact h
 refine ⟨k',m',_,rfl,hd.tn tt (fun b hb h=>hb (by rw [h];exact hkr)),hm,⟨hmv.trans tt (fun b hb h=>by omega),fun b hb=>(hv.eq b (by omega)).trans (hold b hb)⟩,⟨A,n,c,A2,n2,c2,A3,n3,c3,rfl,(hA.tn tt (fun b hb h=>by have:=hb.1;omega)).more fun b hb=>⟨by have:=hb.1;omega,hb.2⟩⟩⟩
set_option maxHeartbeats 1000000 in
theorem at_any (h:DocM w D pa tx ls mk k d.cs.length d m) (now:Int) (h0:0≤now) (hnow:now≤1099511627776) (ht:d.t + 1<18446744073709551616) {c:Int} (hc:0≤c∧c<4294967296) (gf:FuncId) (caps:Array Value) (dd:Pl.Dc × Pl.An)
  (hfun:∀ args w,(callFunc gf args).run Tryz.prog w=.ok (.enter gf args) w)
  (hrow:dd.2.e≠0→dd.2=Pl.fails dd.2.e)
  (hf:∀ w1 al,DocM w1 D pa tx ls mk k d.cs.length (d.touched now) m→Mv k w k w1→w.heap.size≤al→AnAt w1 al 0 0 false none 0 0 none 0 0 none 0 0→Pl.liveM (d.touched now).L c now=true→Tn (Hot k) w w1 →
   Calls Tryz.prog gf (#[.pointer (some ⟨al,0,none⟩)] ++ caps) w1 (OwnD w1 D pa tx ls mk al k m dd)) :
  Calls Tryz.prog 67 #[.pointer (some ⟨D,0,none⟩),.int .u32 c,.int .u64 now,.func (.func gf) #[] caps] w (DocR w D pa tx ls mk k m (told (if Pl.liveM (d.touched now).L c now=true then dd else (d.touched now,Pl.fails 36)))):=by
 obtain ⟨X,hX⟩ : ∃ X,X=if Pl.liveM (d.touched now).L c now=true then dd else (d.touched now,Pl.fails 36):=⟨_,rfl⟩
 rw [← hX]
 obtain ⟨R,hR⟩ : ∃ R,R=DocR w D pa tx ls mk k m (told X):=⟨_,rfl⟩
 rw [← hR]
 have HR:=Lib.hid hR
 have HH:=Lib.hid h
 have HF:=Lib.hid hf
 have HW:=Lib.hid hrow
 clear h hR hf hrow
 go_enter Tryz.func67,Tryz.ntmps67
 go_wp2_with fail
 obtain ⟨os,hos⟩ : ∃ os:List Obj,os=[.cells #[.pointer (some ⟨D,0,none⟩)] 23,.cells #[.int .u32 c] 28,.cells #[.int .u64 now] 27,.cells #[.func (.func gf) #[] caps] 113,.cells #[.int .i64 0,.int .u32 0,.int .u64 0,.bool false,.slice none 0 0,.slice none 0 0,.slice none 0 0] 37]:=⟨_,rfl⟩
 have hW:allocs w os=((((w.alloc (.cells #[.pointer (some ⟨D,0,none⟩)] 23)).alloc (.cells #[.int .u32 c] 28)).alloc (.cells #[.int .u64 now] 27)).alloc (.cells #[.func (.func gf) #[] caps] 113)).alloc (.cells #[.int .i64 0,.int .u32 0,.int .u64 0,.bool false,.slice none 0 0,.slice none 0 0,.slice none 0 0] 37):=by rw [hos];rfl
 rw [← hW]
 have hB:=allocs_below os w
 have e0:=allocs_at os w 0 _ (by rw [hos];rfl)
 have e1:=allocs_at os w 1 _ (by rw [hos];rfl)
 have e2:=allocs_at os w 2 _ (by rw [hos];rfl)
 have e3:=allocs_at os w 3 _ (by rw [hos];rfl)
 have e4:=allocs_at os w 4 _ (by rw [hos];rfl)
 clear hW hos
 generalize allocs w os=W0 at hB e0 e1 e2 e3 e4 ⊢
 clear os
 have hlt:=HH.out.lt
 have hC:=touched_any (HH.out.then_ hB) now h0 hnow ht 145 #[.pointer (some ⟨w.heap.size,0,none⟩),.pointer (some ⟨w.heap.size + 1,0,none⟩),.pointer (some ⟨w.heap.size + 1 + 1,0,none⟩),.pointer (some ⟨w.heap.size + 1 + 1 + 1,0,none⟩)] (if Pl.liveM (d.touched now).L c now=true then dd else (d.touched now,Pl.fails 36))
  (fun args w=>by simp [go_sem]) (fun he=>by
   split
   ·rename_i hl
    rw [if_pos hl] at he
    exact HW.out he
   ·rfl) (fun w1 al h1 h2 h3 h4 h5 =>
   at1_any h1 now h0 hc gf caps dd al _ _ _ _ hfun (box_mv h2 e0 hlt (Nat.le_refl _)) (box_mv h2 e1 hlt (by omega)) (box_mv h2 e2 hlt (by omega)) (box_mv h2 e3 hlt (by omega)) fun w2 hb2 hl =>
    HF.out w2 al (h1.then_ hb2) (((Mv.of k hB).trans h2).then_ hb2) (Nat.le_trans hB.size h3) (h4.then_ hb2) hl (((Tn.of (Hot k) hB).trans h5 fun _ _ h=>h).trans (Tn.of (fun _=>False) hb2) fun _ _ h=>h.elim))
 rw [← hX] at hC
 have HC:=Lib.hid hC
 have HE:=Lib.hid (And.intro hB (And.intro hlt (show AnAt W0 (w.heap.size + 4) 0 0 false none 0 0 none 0 0 none 0 0 from e4)))
 clear hX hC hB e0 e1 e2 e3 e4 hlt
 refine HC.out.mono ?_
 rintro e w2 ⟨k',m',v,rfl,hd,hm,hmv,A,n,c,A2,n2,c2,A3,n3,c3,rfl,hr⟩
 have hr4:w.heap.size + 4<W0.heap.size:=HE.out.2.2.lt
 have h4:AnAt w2 (w.heap.size + 4) 0 0 false none 0 0 none 0 0 none 0 0:=box_mv hmv HE.out.2.2 HE.out.2.1 (by omega)
 have HD:=Lib.hid (And.intro hd (And.intro hm (And.intro hmv hr)))
 have H4:=Lib.hid h4
 have HR4:=Lib.hid hr4
 obtain ⟨d0,d1,d2,d3,d4,d5,d6⟩:=h4.cells
 have g7:=h4.frozen
 clear hd hm hmv hr h4 hr4 HC
 generalize told X=Y at HD HR ⊢
 obtain ⟨dq,⟨e7,rev7,wh7,tx7,op7,se7⟩⟩:=Y
 simp only at HD
 unfold aval
 simp only
 rw [show w.heap.size + 4=w.heap.size + 1 + 1 + 1 + 1 from rfl] at *
 go_wp2_with fail
 refine bodyPost_ret (results_an rfl (by rfl) (H4.out.sets _ _ _ A n c A2 n2 c2 A3 n3 c3)) rfl ?_
 rw [HR.out]
 exact DocR.end_ HE.out.2.1 HE.out.1 (by omega) HR4.out HD.out.1 HD.out.2.1 HD.out.2.2.1 HD.out.2.2.2 _ _ _ _ _ _ _
end
open Go.RowKit
open Pl (Un)
theorem OwnC.inF {w:World} {B:Nat} {A:Option Addr} {n c:Nat} {cs:List Int} (h:OwnC w B (.slice A n c) cs):Crs w w.heap.size A n c cs∧In (fun b=>B≤b∧b<w.heap.size) A n:=by
 refine ⟨h.crs.2,fun h0 ad e=>?_⟩
 obtain ⟨A',c',e',h1,h2⟩:=h.shape
 injection e' with e1 e2 e3
 subst e1
 obtain ⟨g,o,e4,hg,_⟩:=h.crs.2.at_ h0
 exact ⟨h2 ad e,by rw [e] at e4;cases e4;exact hg⟩
theorem RowO.inF {w:World} {B:Nat} {A:Option Addr} {n c:Nat} {P:List Pl.Op} (h:RowO w B (.slice A n c) P):n=P.length∧∃ L,OpsF w (fun b=>B≤b∧b<w.heap.size) A n c L∧L.map OpV.op=P:=by
 obtain ⟨F,L,h1,h2,h3⟩:=h
 obtain ⟨hn,hr⟩:=h1.rws
 refine ⟨by rw [hn,← h3,List.length_map],L,⟨hr,fun h0 ad e=>?_,fun o ho=>(h1.uns o ho).more fun b hb=>h2 b hb⟩,h3⟩
 subst e
 exact h1.row.lt _ rfl
section
variable {w w':World} {D pa tx ls mk m al:Nat} {k:Nat→Nat} {N:Int} {d:Pl.Dc}
def TellR (w:World) (al:Nat) (a:Pl.An) (e:Ending) (w':World):Prop:=e=.returned (.tuple #[])∧AnB w' al (fun b=>w.heap.size≤b∧b<w'.heap.size) a∧Tn (fun b=>b=al) w w'
set_option maxHeartbeats 1000000 in
theorem tell_whole (h:DocM w D pa tx ls mk k N d m) (hA:AnAt w al 0 0 false none 0 0 none 0 0 none 0 0) (rev:Int) (e:Int) (rv:Nat) :
  Calls Tryz.prog 66 #[.pointer (some ⟨D,0,none⟩),.pointer (some ⟨al,0,none⟩),.int .u64 rev,.bool true] w (TellR w al ⟨e,rv,true,d.cs,[],[]⟩):=by
 have HT:=Lib.hid (text_doc h)
 have HA:=Lib.hid hA
 obtain ⟨n,hn⟩ : ∃ n,n=d.cs.length:=⟨_,rfl⟩
 have HN:=Lib.hid hn
 clear h hA hn
 go_enter Tryz.func66,Tryz.ntmps66
 go_wp2_with fail
 refine HT.out.mono ?_
 rintro e w2 ⟨A,c,rfl,ho,hb⟩
 have HO:=Lib.hid (And.intro ho hb)
 have h2:=HA.out.then_ hb
 have H2:=Lib.hid h2
 obtain ⟨d0,d1,d2,d3,d4,d5,d6⟩:=h2.cells
 have g7:=h2.frozen
 clear ho hb h2 HT
 rw [← HN.out]
 go_wp2_with fail
 refine ⟨rfl,_,results_none (by kernel_rfl) _ _ _,rfl,?_⟩
 have t1:Tn (fun b=>b=al) w2 (w2.setCell ⟨al,3,none⟩ (.bool true)):=(Tn.refl (fun b=>b=al) w2).set_ (p:=⟨al,3,none⟩) (Or.inr rfl) _
 have t2:=t1.set_ (p:=⟨al,4,none⟩) (Or.inr rfl) (.slice A n c)
 have h3:AnAt ((w2.setCell ⟨al,3,none⟩ (.bool true)).setCell ⟨al,4,none⟩ (.slice A n c)) al 0 0 true A n c none 0 0 none 0 0:=blk_set (i:=4) (blk_set (i:=3) H2.out (.bool true)) (.slice A n c)
 have hlt:=HA.out.lt
 have ho:OwnC w2 w.heap.size (.slice A n c) d.cs:=by rw [HN.out];exact HO.out.1
 have ho2:=(ho.tn t2 (fun g hg e=>by have:=(ho.lt g hg).1;omega)).inF
 exact ⟨⟨A,n,c,none,0,0,none,0,0,h3,⟨⟨ho2.1,ho2.2⟩,⟨[],OpsF.none_ _ _,rfl⟩,⟨Rws.none_ _ _ _,fun h=>absurd h (by decide)⟩⟩⟩,(Tn.of (fun b=>b=al) HO.out.2).trans t2 (fun _ _ h=>h)⟩
set_option maxHeartbeats 1000000 in
theorem tell_ops (h:DocM w D pa tx ls mk k N d m) (hA:AnAt w al 0 0 false none 0 0 none 0 0 none 0 0) (rev:Nat) (h1:d.fr≤rev) (h2:rev≤d.now) (e:Int) (rv:Nat) :
  Calls Tryz.prog 66 #[.pointer (some ⟨D,0,none⟩),.pointer (some ⟨al,0,none⟩),.int .u64 (rev:Int),.bool false] w (TellR w al ⟨e,rv,false,[],d.later rev,[]⟩):=by
 have HT:=Lib.hid (since_ok h.past (rev - d.fr) rev (by omega) (by unfold Pl.Dc.now at h2;omega))
 obtain ⟨d0,d1,d2,d3,d4⟩:=h.cells
 have HA:=Lib.hid hA
 obtain ⟨P,hP⟩ : ∃ P,P=d.later rev:=⟨_,rfl⟩
 have hP2:P=d.P.drop (rev - d.fr):=hP
 rw [← hP2] at HT
 rw [← hP]
 obtain ⟨n,hn⟩ : ∃ n,n=P.length:=⟨_,rfl⟩
 rw [← hn] at HT
 have HN:=Lib.hid hn
 clear h hA h1 h2 hP hP2 hn
 go_enter Tryz.func66,Tryz.ntmps66
 go_wp2_with fail
 refine HT.out.mono ?_
 rintro e w2 ⟨A,c,rfl,ho,hb⟩
 have HO:=Lib.hid (And.intro ho hb)
 have h2:=HA.out.then_ hb
 have H2:=Lib.hid h2
 clear d0 d1 d2 d3 d4
 obtain ⟨d0,d1,d2,d3,d4,d5,d6⟩:=h2.cells
 have g7:=h2.frozen
 clear ho hb h2 HT
 go_wp2_with fail
 refine ⟨rfl,_,results_none (by kernel_rfl) _ _ _,rfl,?_⟩
 have t2:Tn (fun b=>b=al) w2 (w2.setCell ⟨al,5,none⟩ (.slice A n c)):=(Tn.refl (fun b=>b=al) w2).set_ (p:=⟨al,5,none⟩) (Or.inr rfl) _
 have h3:AnAt (w2.setCell ⟨al,5,none⟩ (.slice A n c)) al 0 0 false none 0 0 A n c none 0 0:=blk_set (i:=5) H2.out (.slice A n c)
 have hlt:=HA.out.lt
 obtain ⟨_,L,h4,h5⟩:=(HO.out.1.tn t2 (fun b e=>by omega)).inF
 exact ⟨⟨none,0,0,A,n,c,none,0,0,h3,⟨⟨Crs.none_ _ _,fun h=>absurd h (by decide)⟩,⟨L,h4,h5⟩,⟨Rws.none_ _ _ _,fun h=>absurd h (by decide)⟩⟩⟩,(Tn.of (fun b=>b=al) HO.out.2).trans t2 (fun _ _ h=>h)⟩
end
end Go.Proofs.YtlgdcelgkiipaaaGreat
