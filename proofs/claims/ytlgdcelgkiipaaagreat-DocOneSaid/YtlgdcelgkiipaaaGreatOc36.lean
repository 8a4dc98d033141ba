/-
  Open's own part. Conditions: those that it states.
  doc's rows (the units of operations) and do (a unit laid into the table). Conditions: those that each states.
-/
import Derived.Test.YtlgdcelgkiipaaaGreatOc35
import Derived.StillTailTactics
set_option maxRecDepth 100000
set_option linter.unusedVariables false
namespace Go.Proofs.YtlgdcelgkiipaaaGreat
open Go.RowKit
open Pl (Un)
namespace Pl
theorem setL_err {L:Mks} {c t:Int} (h:(setL L c t).1≠0):(setL L c t).2=L:=by
 unfold setL at h ⊢
 split
 ·rfl
 ·rename_i h1
  rw [if_neg h1] at h
  split
  ·rfl
  ·rename_i h2
   rw [if_neg h2] at h
   exact absurd rfl h
theorem live_there {L:Mks} (hr:Rising L) (c now:Int):liveM (thereM now L) c now=(getM (thereM now L) c).isSome:=by
 cases h:getM (thereM now L) c with
 | none=>rw [live_none h];rfl
 | some v =>
  rw [live_some h]
  have hm:=(get_iff (rising_there hr now)).1 h
  have:=(List.mem_filter.1 hm).2
  simpa using this
namespace Dc
def openF (c:Int) (rev:Nat) (t:Int) (d:Dc):Dc × An :=
 if (d.tells rev (rev == 0)).e≠0 then (d,d.tells rev (rev == 0)) else
  if (setL d.L c t).1≠0 then (d,fails (setL d.L c t).1) else
  ({ d with L:=(setL d.L c t).2,M:=if getM d.M c=none then putM d.M c 0 else d.M },d.tells rev (rev == 0))
theorem open_eq (d:Dc) (c:Int) (rev:Nat) (t:Int):d.open_ c rev t=d.call t (openF c rev t):=rfl
end Dc
end Pl
section
variable {w w':World} {D pa tx ls mk m al:Nat} {k:Nat→Nat} {N:Int} {d:Pl.Dc}
theorem DocM.setLs (h:DocM w D pa tx ls mk k N d m) {c:Int} (hc:0≤c∧c<4294967296) (now:Int) (h0:0≤now) :
  Calls Tryz.prog 64 #[.pointer (some ⟨ls,0,none⟩),.int .u32 c,.int .u64 now] w fun e w'=>e=.returned (.int .i64 (Pl.setL d.L c now).1)∧DocM w' D pa tx ls mk k N { d with L:=(Pl.setL d.L c now).2 } m∧Tn (fun b=>k b=6) w w':=by
 obtain ⟨lb,h5,h6⟩:=h.les
 refine (Ls.set_any h5 hc now h0).mono fun e w' h2=>?_
 have:=h.setL h6 h2.2.1 h2.2.2
 exact ⟨h2.1,this.1,h2.2.2.more fun b _ e=>by rw [e];exact h6⟩
theorem DocM.setMk (h:DocM w D pa tx ls mk k N d m) {c v:Int} (hc:0≤c∧c<4294967296) (hv:0≤v∧v≤N) :
  Calls Tryz.prog 65 #[.pointer (some ⟨mk,0,none⟩),.int .u32 c,.int .i64 v] w fun e w'=>e=.returned (.int .i64 0)∧DocM w' D pa tx ls mk k N { d with M:=Pl.putM d.M c v } m∧Tn (fun b=>k b=8) w w':=by
 obtain ⟨mb,h5,h6⟩:=h.mks
 refine (setM_any h5 hc hv).mono fun e w' h2=>?_
 have:=h.setM h6 h2.2.1 h2.2.2
 exact ⟨h2.1,this.1,h2.2.2.more fun b _ e=>by rw [e];exact h6⟩
theorem TellR.own {w1 wT:World} {a:Pl.An} {e:Ending} (h:DocM w1 D pa tx ls mk k d.cs.length d m) (ht:Tn (fun b=>k b≠0) w w1) (hk:∀ b,k b≠0→b<w.heap.size) (hT:TellR w1 al a e wT) (hka:k al=0) (ha:a.e=0) :
  OwnD w D pa tx ls mk al k m (d,a) (.returned (.int .i64 0)) wT:=by
 have hs:=ht.size
 refine ⟨k,m,by rw [← ha],h.tn hT.2.2 (fun b hb e=>hb (by rw [e];exact hka)),Nat.le_add_right _ _,(ht.more fun b _ h=>Or.inl h).trans hT.2.2 (fun b _ h=>Or.inr h),fun _ _=>rfl,fun _=>?_⟩
 obtain ⟨A,n,c,A2,n2,c2,A3,n3,c3,h7,h8⟩:=hT.2.1
 refine ⟨A,n,c,A2,n2,c2,A3,n3,c3,h7,h8.more fun b hb=>⟨by omega,?_⟩⟩
 rcases Nat.eq_zero_or_pos (k b) with h | h
 ·exact h
 ·have:=hk b (by omega);omega
set_option maxHeartbeats 2000000 in
theorem open1_any (h:DocM w D pa tx ls mk k d.cs.length d m) (hok:d.Ok) {c:Int} (hc:0≤c∧c<4294967296) (rev:Nat) (hrev:rev≤18446744073709551615) (now:Int) (h0:0≤now) (hlv:Pl.liveM d.L c now=(Pl.getM d.L c).isSome) (hA:AnAt w al 0 0 false none 0 0 none 0 0 none 0 0) (hka:k al=0) (b1 b2 b3 b4:Nat)
  (e1:w.heap[b1]?=some (.cells #[.int .u64 (rev:Int)] 27 (0,0))) (e2:w.heap[b2]?=some (.cells #[.pointer (some ⟨D,0,none⟩)] 23 (0,0))) (e3:w.heap[b3]?=some (.cells #[.int .u32 c] 28 (0,0))) (e4:w.heap[b4]?=some (.cells #[.int .u64 now] 27 (0,0)))
  (hk:(k b1=0∧k b2=0∧k b3=0∧k b4=0)∧¬ (b1=al∨b2=al∨b3=al∨b4=al)) :
  Calls Tryz.prog 62 #[.pointer (some ⟨al,0,none⟩),.pointer (some ⟨b1,0,none⟩),.pointer (some ⟨b2,0,none⟩),.pointer (some ⟨b3,0,none⟩),.pointer (some ⟨b4,0,none⟩)] w (OwnD w D pa tx ls mk al k m (d.openF c rev now)):=by
 obtain ⟨R,hR⟩ : ∃ R,R=OwnD w D pa tx ls mk al k m (d.openF c rev now):=⟨_,rfl⟩
 rw [← hR]
 have HR:=Lib.hid hR
 have HH:=Lib.hid h
 have HA:=Lib.hid hA
 have HX:=Lib.hid (And.intro e1 (And.intro e2 (And.intro e3 e4)))
 have HK:=Lib.hid hk
 have HL:=Lib.hid hlv
 have HO:=Lib.hid hok
 have HC:=Lib.hid hc
 have HKA:=Lib.hid hka
 obtain ⟨nw,hnw⟩ : ∃ nw,nw=d.now:=⟨_,rfl⟩
 have HV:=Lib.hid (fun n=>rev_doc (h.drewN n))
 rw [← hnw] at HV
 have HNW:=Lib.hid hnw
 have x1:=cell0 (r:=[]) e1
 have x2:=cell0 (r:=[]) e2
 clear h hR hok hlv hA e1 e2 e3 e4 hk hc hnw
 go_enter Tryz.func62,Tryz.ntmps62
 go_wp2_with fail
 go_quiet ((go_at_call 17;exact quiet_of (HV.out _)))
 obtain ⟨wq,hwq⟩ : ∃ x,x=w.drewN nq:=⟨_,rfl⟩
 rw [← hwq]
 have HBQ:=Lib.hid (show Below w.heap.size w wq by rw [hwq];exact below_drewN _ _)
 clear hwq x1 x2 HV
 by_cases hr:nw<rev
 ·have z1:decide ((rev:Int) > (nw:Int))=true:=decide_eq_true (by omega)
  have z2:decide ((nw:Int)<(rev:Int))=true:=decide_eq_true (by omega)
  go_wp2_with fail
  rw [HR.out]
  have hE:d.openF c rev now=(d,Pl.fails 31):=by
   have h1:d.now<rev:=by rw [← HNW.out];exact hr
   unfold Pl.Dc.openF Pl.Dc.tells
   simp only [if_pos h1]
   rfl
  rw [hE]
  exact OwnD.bad HH.out al (by decide) HBQ.out
 ·have z1:decide ((rev:Int) > (nw:Int))=false:=decide_eq_false (by omega)
  have z2:decide ((nw:Int)<(rev:Int))=false:=decide_eq_false (by omega)
  have hq:=HH.out.then_ HBQ.out
  obtain ⟨d0,d1,d2,d3,d4⟩:=hq.cells
  have x2:=cell0 (r:=[]) (below_old HBQ.out HX.out.2.1 (lt_of_block HX.out.2.1))
  have x3:=cell0 (r:=[]) (below_old HBQ.out HX.out.2.2.1 (lt_of_block HX.out.2.2.1))
  have x4:=cell0 (r:=[]) (below_old HBQ.out HX.out.2.2.2 (lt_of_block HX.out.2.2.2))
  have HV:=Lib.hid (fun n=>(hq.drewN n).live HC.out now h0)
  rw [HL.out] at HV
  clear hq
  go_wp2_with fail
  go_quiet ((go_at_call 63;exact quiet_of (HV.out _)))
  obtain ⟨wr,hwr⟩ : ∃ x,x=wq.drewN nq:=⟨_,rfl⟩
  rw [← hwr]
  have HBR:=Lib.hid (show Below w.heap.size w wr by rw [hwr];exact below_then HBQ.out (below_drewN _ _))
  clear hwr d0 d1 d2 d3 d4 x2 x3 x4 HV HBQ
  obtain ⟨lv,hlv⟩ : ∃ lv,lv=(Pl.getM d.L c).isSome:=⟨_,rfl⟩
  rw [← hlv]
  have HLV:=Lib.hid hlv
  clear hlv
  have hq:=HH.out.then_ HBR.out
  obtain ⟨d0,d1,d2,d3,d4⟩:=hq.cells
  have y2:=below_old HBR.out HX.out.2.1 (lt_of_block HX.out.2.1)
  have y3:=below_old HBR.out HX.out.2.2.1 (lt_of_block HX.out.2.2.1)
  have y4:=below_old HBR.out HX.out.2.2.2 (lt_of_block HX.out.2.2.2)
  have x2:=cell0 (r:=[]) y2
  have x3:=cell0 (r:=[]) y3
  have x4:=cell0 (r:=[]) y4
  have HS:=Lib.hid (hq.drew.setLs HC.out now h0)
  obtain ⟨r,hr2⟩ : ∃ r,r=(Pl.setL d.L c now).1:=⟨_,rfl⟩
  rw [← hr2] at HS
  have HRR:=Lib.hid hr2
  have HK4:=Lib.hid (fun (wS:World) (h:Tn (fun b=>k b=6) wr.drew wS)=>And.intro ((cell0 (r:=[]) (h.old (w:=wr.drew) y2 (by rw [HK.out.1.2.1];decide))) ) (And.intro (h.cell (p:=⟨D,3,none⟩) (lt_of_block hq.blk) (by rw [show (⟨D,3,none⟩ : Addr).block=D from rfl,HH.out.kD];decide) |>.trans d3) (And.intro (cell0 (r:=[]) (h.old (w:=wr.drew) y3 (by rw [HK.out.1.2.2.1];decide))) (cell0 (r:=[]) (h.old (w:=wr.drew) y4 (by rw [HK.out.1.2.2.2];decide))))))
  clear hq y2 y3 y4 d0 d1 d2 d4 hr2
  go_wp2_with fail
  go_region_held3 (fun w'=>w'.cell? ⟨b2,0,none⟩=some (.pointer (some ⟨D,0,none⟩))∧w'.cell? ⟨D,3,none⟩=some (.pointer (some ⟨ls,0,none⟩))∧w'.cell? ⟨b3,0,none⟩=some (.int .u32 c)∧w'.cell? ⟨b4,0,none⟩=some (.int .u64 now))
   (first | go_keep | (go_split_ands;exact HK4.out _ htS))
   (first | (go_at_call 64;refine (HS.out).mono ?_;rintro e wS ⟨rfl,hdS,htS⟩))
  have HDS:=Lib.hid hdS
  have HTS:=Lib.hid (show Tn (fun b=>k b≠0) w wS from (Tn.of (fun b=>k b≠0) HBR.out).trans ((Tn.of (fun b=>k b≠0) (below_drawn (Below.refl _ _))).trans (htS.more fun b _ e=>by rw [e];decide) (fun _ _ h=>h)) (fun _ _ h=>h))
  clear hdS htS HK4 HS x2 x3 x4 d3
  by_cases hrz:r=0
  ·subst hrz
   have y1:=HTS.out.old HX.out.1 (fun h=>h HK.out.1.1)
   have y2:=HTS.out.old HX.out.2.1 (fun h=>h HK.out.1.2.1)
   have y3:=HTS.out.old HX.out.2.2.1 (fun h=>h HK.out.1.2.2.1)
   have hA9:=HA.out.tn HTS.out (fun h=>h HKA.out)
   have hHRZ:¬ (Pl.setL d.L c now).1≠0:=by rw [← HRR.out];simp
   have HRZ:=Lib.hid hHRZ
   clear hHRZ
   cases lv with
   | true =>
    have hMM:(if Pl.getM d.M c=none then Pl.putM d.M c 0 else d.M)=d.M:=if_neg (fun h=>by
     have h1:=(HO.out.m.who c).1 h
     have h2:=HLV.out
     rw [h1] at h2;cases h2)
    have HMM:=Lib.hid hMM
    obtain ⟨d9,hd9⟩ : ∃ d9:Pl.Dc,d9={ d with L:=(Pl.setL d.L c now).2,M:=d.M }:=⟨_,rfl⟩
    have HE9:=Lib.hid hd9
    have hds:=HDS.out
    have hcs:d.cs.length=d9.cs.length:=by rw [hd9]
    rw [← hd9,hcs] at hds
    have HD9:=Lib.hid (And.intro hds (And.intro HTS.out hA9))
    clear hMM hA9 y3 hd9 hds hcs HDS
    go_wp2_with fail
    have x1:=cell0 (r:=[]) y1
    have x2:=cell0 (r:=[]) y2
    have HK9:=Lib.hid (fun (wT:World) (h:Tn (fun b=>b=al) wS.drew wT)=>And.intro (cell0 (r:=[]) (h.old (w:=wS.drew) y1 (fun e=>HK.out.2 (.inl e)))) (cell0 (r:=[]) (h.old (w:=wS.drew) y2 (fun e=>HK.out.2 (.inr (.inl e))))))
    have hr9:¬ d.now<rev:=by rw [← HNW.out];exact hr
    have HR9:=Lib.hid hr9
    have HFL:=Lib.hid (fun wT (h:TellR wS.drew al (d.tells rev (rev == 0)) (.returned (.tuple #[])) wT)=>TellR.own (w:=w) HD9.out.1.drew HD9.out.2.1.drew HH.out.lt h HKA.out (by unfold Pl.Dc.tells;rw [if_neg hr9];split <;> rfl))
    have hE:d.openF c rev now=(d9,d.tells rev (rev == 0)):=by
     unfold Pl.Dc.openF
     rw [if_neg (by unfold Pl.Dc.tells;rw [if_neg hr9];split <;> simp),if_neg HRZ.out,HMM.out,HE9.out]
    have HE:=Lib.hid hE
    clear hE hr9 y1 y2
    by_cases hz:rev=0
    ·have z5:((rev:Int) == 0)=true:=by rw [hz];rfl
     have z6:decide ((rev:Int)=0)=true:=decide_eq_true (by omega)
     have z7:decide (rev=0)=true:=decide_eq_true hz
     have hc9:d9.cs=d.cs:=by rw [HE9.out]
     have hTL:=tell_whole HD9.out.1.drew (HD9.out.2.2.then_ (below_drawn (Below.refl _ _))) (rev:Int) 0 0
     rw [hc9,show (⟨0,0,true,d.cs,[],[]⟩ : Pl.An)=d.tells rev (rev == 0) by unfold Pl.Dc.tells;rw [if_neg HR9.out,if_pos (.inl (by rw [hz];rfl))]] at hTL
     have HTL:=Lib.hid hTL
     have HZ:=Lib.hid hz
     clear hz hTL hc9
     go_wp2_with fail
     go_still_tail 11,(by kernel_rfl)
     change wpList _ _ _ _ _ wS.drew
     go_wp2_with fail
     refine HTL.out.mono ?_
     rintro e wT ⟨rfl,hbT,htT⟩
     have HT:=Lib.hid (HFL.out wT ⟨rfl,hbT,htT⟩)
     clear hbT htT
     go_wp2_with fail
     rw [HR.out,HE.out]
     exact HT.out
    ·have z5:((rev:Int) == 0)=false:=by simp;omega
     have z6:decide ((rev:Int)=0)=false:=decide_eq_false (by omega)
     have z7:decide (rev=0)=false:=decide_eq_false hz
     have hFR:=from_doc HD9.out.1.drew
     rw [show d9.fr=d.fr by rw [HE9.out]] at hFR
     obtain ⟨fr,hfr⟩ : ∃ fr,fr=d.fr:=⟨_,rfl⟩
     rw [← hfr] at hFR
     have HFR:=Lib.hid hFR
     have HZ:=Lib.hid hz
     by_cases hf:rev<fr
     ·have z8:decide ((rev:Int)<(fr:Int))=true:=decide_eq_true (by omega)
      have z9:decide ((fr:Int) > (rev:Int))=true:=decide_eq_true (by omega)
      have hc9:d9.cs=d.cs:=by rw [HE9.out]
      have hTL:=tell_whole HD9.out.1.drew (HD9.out.2.2.then_ (below_drawn (Below.refl _ _))) (rev:Int) 0 0
      rw [hc9,show (⟨0,0,true,d.cs,[],[]⟩ : Pl.An)=d.tells rev (rev == 0) by unfold Pl.Dc.tells;rw [if_neg HR9.out,if_pos (.inr (by rw [← hfr];exact hf))]] at hTL
      have HTL:=Lib.hid hTL
      clear hz hTL hc9 hfr hFR
      go_wp2_with fail
      go_region_held3 (fun w'=>w'.cell? ⟨b1,0,none⟩=some (.int .u64 (rev:Int))∧w'.cell? ⟨b2,0,none⟩=some (.pointer (some ⟨D,0,none⟩)))
       (first | go_keep | (go_split_ands;exact HK9.out _ htT))
       (first | (go_at_call 26;refine HFR.out.mono ?_;rintro e wF ⟨rfl,rfl⟩) | (go_at_call 66;refine HTL.out.mono ?_;rintro e wT ⟨rfl,hbT,htT⟩))
      have HT:=Lib.hid (HFL.out wT ⟨rfl,hbT,htT⟩)
      clear hbT htT
      go_wp2_with fail
      rw [HR.out,HE.out]
      exact HT.out
     ·have z8:decide ((rev:Int)<(fr:Int))=false:=decide_eq_false (by omega)
      have z9:decide ((fr:Int) > (rev:Int))=false:=decide_eq_false (by omega)
      have hc9:d9.later rev=d.later rev:=by rw [HE9.out];rfl
      have hTL:=tell_ops HD9.out.1.drew (HD9.out.2.2.then_ (below_drawn (Below.refl _ _))) rev (by rw [HE9.out];show d.fr≤rev;omega) (by have h9:=HR9.out;rw [HE9.out];show rev≤d.now;omega) 0 0
      rw [hc9,show (⟨0,0,false,[],d.later rev,[]⟩ : Pl.An)=d.tells rev (rev == 0) by unfold Pl.Dc.tells;rw [if_neg HR9.out,if_neg (by rw [← hfr];simp [hz,hf])]] at hTL
      have HTL:=Lib.hid hTL
      clear hz hTL hc9 hfr hFR
      go_wp2_with fail
      go_region_held3 (fun w'=>w'.cell? ⟨b1,0,none⟩=some (.int .u64 (rev:Int))∧w'.cell? ⟨b2,0,none⟩=some (.pointer (some ⟨D,0,none⟩)))
       (first | go_keep | (go_split_ands;exact HK9.out _ htT))
       (first | (go_at_call 26;refine HFR.out.mono ?_;rintro e wF ⟨rfl,rfl⟩) | (go_at_call 66;refine HTL.out.mono ?_;rintro e wT ⟨rfl,hbT,htT⟩))
      have HT:=Lib.hid (HFL.out wT ⟨rfl,hbT,htT⟩)
      clear hbT htT
      go_wp2_with fail
      rw [HR.out,HE.out]
      exact HT.out
   | false =>
    have hgn:Pl.getM d.M c=none:=(HO.out.m.who c).2 (by
     have h2:=HLV.out
     cases h:Pl.getM d.L c with
     | none=>rfl
     | some v=>rw [h] at h2;cases h2)
    have hMM:(if Pl.getM d.M c=none then Pl.putM d.M c 0 else d.M)=Pl.putM d.M c 0:=if_pos hgn
    have HMM:=Lib.hid hMM
    have HMK:=Lib.hid (HDS.out.drew.setMk (c:=c) (v:=0) HC.out ⟨Int.le_refl _,Int.natCast_nonneg _⟩)
    obtain ⟨d0,d1,d2,d3,d4⟩:=HDS.out.cells
    have x2:=cell0 (r:=[]) y2
    have x3:=cell0 (r:=[]) y3
    have HK8:=Lib.hid (fun (wM:World) (h:Tn (fun b=>k b=8) wS.drew wM)=>And.intro ((cell0 (r:=[]) (h.old (w:=wS.drew) y2 (by rw [HK.out.1.2.1];decide)))) (And.intro (h.cell (p:=⟨D,4,none⟩) (lt_of_block HDS.out.blk) (by rw [show (⟨D,4,none⟩ : Addr).block=D from rfl,HH.out.kD];decide) |>.trans d4) (cell0 (r:=[]) (h.old (w:=wS.drew) y3 (by rw [HK.out.1.2.2.1];decide)))))
    clear hMM hgn d0 d1 d2 d3
    go_wp2_with fail
    go_region_held3 (fun w'=>w'.cell? ⟨b2,0,none⟩=some (.pointer (some ⟨D,0,none⟩))∧w'.cell? ⟨D,4,none⟩=some (.pointer (some ⟨mk,0,none⟩))∧w'.cell? ⟨b3,0,none⟩=some (.int .u32 c))
     (first | go_keep | (go_split_ands;exact HK8.out _ htM))
     (first | (go_at_call 65;refine (HMK.out).mono ?_;rintro e wM ⟨rfl,hdM,htM⟩))
    obtain ⟨d9,hd9⟩ : ∃ d9:Pl.Dc,d9={ d with L:=(Pl.setL d.L c now).2,M:=Pl.putM d.M c 0 }:=⟨_,rfl⟩
    have HE9:=Lib.hid hd9
    have htm:Tn (fun b=>k b≠0) w wM:=HTS.out.trans ((Tn.of (fun b=>k b≠0) (below_drawn (Below.refl _ _))).trans (htM.more fun b _ e=>by rw [e];decide) (fun _ _ h=>h)) (fun _ _ h=>h)
    have hcs:d.cs.length=d9.cs.length:=by rw [hd9]
    rw [show ({ d with L:=(Pl.setL d.L c now).2,M:=Pl.putM d.M c 0 }:Pl.Dc)=d9 from hd9.symm,hcs] at hdM
    have HD9:=Lib.hid (And.intro hdM (And.intro htm (HA.out.tn htm (fun h=>h HKA.out))))
    clear y1 y2 y3 x2 x3 d4 HK8 HMK
    have y1:=htm.old HX.out.1 (fun h=>h HK.out.1.1)
    have y2:=htm.old HX.out.2.1 (fun h=>h HK.out.1.2.1)
    clear hd9 hdM hcs htm htM HDS HTS
    go_wp2_with fail
    have x1:=cell0 (r:=[]) y1
    have x2:=cell0 (r:=[]) y2
    have HK9:=Lib.hid (fun (wT:World) (h:Tn (fun b=>b=al) wM.drew wT)=>And.intro (cell0 (r:=[]) (h.old (w:=wM.drew) y1 (fun e=>HK.out.2 (.inl e)))) (cell0 (r:=[]) (h.old (w:=wM.drew) y2 (fun e=>HK.out.2 (.inr (.inl e))))))
    have hr9:¬ d.now<rev:=by rw [← HNW.out];exact hr
    have HR9:=Lib.hid hr9
    have HFL:=Lib.hid (fun wT (h:TellR wM.drew al (d.tells rev (rev == 0)) (.returned (.tuple #[])) wT)=>TellR.own (w:=w) HD9.out.1.drew HD9.out.2.1.drew HH.out.lt h HKA.out (by unfold Pl.Dc.tells;rw [if_neg hr9];split <;> rfl))
    have hE:d.openF c rev now=(d9,d.tells rev (rev == 0)):=by
     unfold Pl.Dc.openF
     rw [if_neg (by unfold Pl.Dc.tells;rw [if_neg hr9];split <;> simp),if_neg HRZ.out,HMM.out,HE9.out]
    have HE:=Lib.hid hE
    clear hE hr9 y1 y2
    by_cases hz:rev=0
    ·have z5:((rev:Int) == 0)=true:=by rw [hz];rfl
     have z6:decide ((rev:Int)=0)=true:=decide_eq_true (by omega)
     have z7:decide (rev=0)=true:=decide_eq_true hz
     have hc9:d9.cs=d.cs:=by rw [HE9.out]
     have hTL:=tell_whole HD9.out.1.drew (HD9.out.2.2.then_ (below_drawn (Below.refl _ _))) (rev:Int) 0 0
     rw [hc9,show (⟨0,0,true,d.cs,[],[]⟩ : Pl.An)=d.tells rev (rev == 0) by unfold Pl.Dc.tells;rw [if_neg HR9.out,if_pos (.inl (by rw [hz];rfl))]] at hTL
     have HTL:=Lib.hid hTL
     have HZ:=Lib.hid hz
     clear hz hTL hc9
     go_wp2_with fail
     go_still_tail 11,(by kernel_rfl)
     change wpList _ _ _ _ _ wM.drew
     go_wp2_with fail
     refine HTL.out.mono ?_
     rintro e wT ⟨rfl,hbT,htT⟩
     have HT:=Lib.hid (HFL.out wT ⟨rfl,hbT,htT⟩)
     clear hbT htT
     go_wp2_with fail
     rw [HR.out,HE.out]
     exact HT.out
    ·have z5:((rev:Int) == 0)=false:=by simp;omega
     have z6:decide ((rev:Int)=0)=false:=decide_eq_false (by omega)
     have z7:decide (rev=0)=false:=decide_eq_false hz
     have hFR:=from_doc HD9.out.1.drew
     rw [show d9.fr=d.fr by rw [HE9.out]] at hFR
     obtain ⟨fr,hfr⟩ : ∃ fr,fr=d.fr:=⟨_,rfl⟩
     rw [← hfr] at hFR
     have HFR:=Lib.hid hFR
     have HZ:=Lib.hid hz
     by_cases hf:rev<fr
     ·have z8:decide ((rev:Int)<(fr:Int))=true:=decide_eq_true (by omega)
      have z9:decide ((fr:Int) > (rev:Int))=true:=decide_eq_true (by omega)
      have hc9:d9.cs=d.cs:=by rw [HE9.out]
      have hTL:=tell_whole HD9.out.1.drew (HD9.out.2.2.then_ (below_drawn (Below.refl _ _))) (rev:Int) 0 0
      rw [hc9,show (⟨0,0,true,d.cs,[],[]⟩ : Pl.An)=d.tells rev (rev == 0) by unfold Pl.Dc.tells;rw [if_neg HR9.out,if_pos (.inr (by rw [← hfr];exact hf))]] at hTL
      have HTL:=Lib.hid hTL
      clear hz hTL hc9 hfr hFR
      go_wp2_with fail
      go_region_held3 (fun w'=>w'.cell? ⟨b1,0,none⟩=some (.int .u64 (rev:Int))∧w'.cell? ⟨b2,0,none⟩=some (.pointer (some ⟨D,0,none⟩)))
       (first | go_keep | (go_split_ands;exact HK9.out _ htT))
       (first | (go_at_call 26;refine HFR.out.mono ?_;rintro e wF ⟨rfl,rfl⟩) | (go_at_call 66;refine HTL.out.mono ?_;rintro e wT ⟨rfl,hbT,htT⟩))
      have HT:=Lib.hid (HFL.out wT ⟨rfl,hbT,htT⟩)
      clear hbT htT
      go_wp2_with fail
      rw [HR.out,HE.out]
      exact HT.out
     ·have z8:decide ((rev:Int)<(fr:Int))=false:=decide_eq_false (by omega)
      have z9:decide ((fr:Int) > (rev:Int))=false:=decide_eq_false (by omega)
      have hc9:d9.later rev=d.later rev:=by rw [HE9.out];rfl
      have hTL:=tell_ops HD9.out.1.drew (HD9.out.2.2.then_ (below_drawn (Below.refl _ _))) rev (by rw [HE9.out];show d.fr≤rev;omega) (by have h9:=HR9.out;rw [HE9.out];show rev≤d.now;omega) 0 0
      rw [hc9,show (⟨0,0,false,[],d.later rev,[]⟩ : Pl.An)=d.tells rev (rev == 0) by unfold Pl.Dc.tells;rw [if_neg HR9.out,if_neg (by rw [← hfr];simp [hz,hf])]] at hTL
      have HTL:=Lib.hid hTL
      clear hz hTL hc9 hfr hFR
      go_wp2_with fail
      go_region_held3 (fun w'=>w'.cell? ⟨b1,0,none⟩=some (.int .u64 (rev:Int))∧w'.cell? ⟨b2,0,none⟩=some (.pointer (some ⟨D,0,none⟩)))
       (first | go_keep | (go_split_ands;exact HK9.out _ htT))
       (first | (go_at_call 26;refine HFR.out.mono ?_;rintro e wF ⟨rfl,rfl⟩) | (go_at_call 66;refine HTL.out.mono ?_;rintro e wT ⟨rfl,hbT,htT⟩))
      have HT:=Lib.hid (HFL.out wT ⟨rfl,hbT,htT⟩)
      clear hbT htT
      go_wp2_with fail
      rw [HR.out,HE.out]
      exact HT.out
  ·have z3:(r != 0)=true:=by simpa using hrz
   have z4:decide (r≠0)=true:=decide_eq_true hrz
   go_wp2_with fail
   rw [HR.out]
   have hrz2:(Pl.setL d.L c now).1≠0:=by rw [← HRR.out];exact hrz
   have hE:d.openF c rev now=(d,Pl.fails r):=by
    unfold Pl.Dc.openF
    rw [if_neg,if_pos hrz2,HRR.out]
    unfold Pl.Dc.tells
    rw [if_neg (show ¬ d.now<rev by rw [← HNW.out];exact hr)]
    split <;> simp
   have hd:=HDS.out
   rw [Pl.setL_err hrz2] at hd
   rw [hE]
   exact ⟨k,m,rfl,hd,Nat.le_add_right _ _,HTS.out.more fun b _ h=>Or.inl h,fun _ _=>rfl,fun h=>absurd h hrz⟩
end
open Go.RowKit
open Pl (Un)
def encRV (q:RowV):List Value:=[q.val]
theorem encRV_len (q:RowV):(encRV q).length=1:=rfl
theorem encRV_one (q:RowV):∀ u ∈ encRV q,u.oneCell'=true:=by
 intro u hu
 simp only [encRV,List.mem_singleton] at hu
 rw [hu];rfl
theorem infoRV:(Tryz.prog.info? 29).map (fun i=>(i.zero,i.size,i.bytes))=some (some (.slice none 0 0),1,24):=by kernel_rfl
def rvOf (o:OpV):RowV:=⟨o.A,o.n,o.c,o.l⟩
def RwI (w:World) (B:Nat) (L:List OpV) (s i:Value) (wr:World):Prop:=∃ (j:Nat) (A:Option Addr) (c:Nat),i=.int .i64 (j:Int)∧s=.slice A j c∧j≤L.length∧OwnR encRV 1 29 wr B (.slice A j c) ((L.take j).map rvOf)∧Below w.heap.size w wr∧B=w.heap.size
set_option maxHeartbeats 1000000 in
theorem rows_any {w:World} {F:Nat→Prop} {A:Option Addr} {n c:Nat} {L:List OpV} (h:OpsF w F A n c L) (hn:n≤1000) (hl:∀ o ∈ L,o.l.length≤1000) :
  Calls Tryz.prog 77 #[.slice A n c] w fun e w'=>∃ B d,e=.returned (.slice B (L.map rvOf).length d)∧RowsV w' B (L.map rvOf)∧(∀ a,0<(L.map rvOf).length→B=some a→w.heap.size≤a.block)∧Below w.heap.size w w':=by
 have HL:=Lib.hid hl
 have hlen:=h.1.len
 have HLN:=Lib.hid hlen
 have HH:=Lib.hid h
 clear h hl hlen
 go_enter Tryz.func77,Tryz.ntmps77
 go_wp2_with fail
 go_loopw [3,8] (fun s i wr=>RwI w w.heap.size L s i wr) (fun _ i _=>n - (intOf i).toNat)
 case atStart=>exact ⟨0,none,0,rfl,rfl,Nat.zero_le _,OwnR.nil_ _ _ _ _ _,Below.refl _ _,rfl⟩
 case round =>
  obtain ⟨j,A1,c1,rfl,rfl,hj,ho,hb,_⟩:=hrel
  have HO:=Lib.hid ho
  have HB:=Lib.hid hb
  clear ho hb
  by_cases hlt:j<n
  ·have hjL:j<L.length:=by rw [HLN.out];exact hlt
   have z0:(0:Int)≤(j:Int):=Int.natCast_nonneg _
   have z1:(j:Int)<(n:Int):=Int.ofNat_lt.2 hlt
   have HMS:=Lib.hid (show n - (j + 1)<n - j by omega)
   have hP:=HH.out.then_ HB.out
   obtain ⟨g,o,rfl,hg,_,hc⟩:=hP.at_ hlt
   obtain ⟨a0,a1,a2,a3⟩:=hc j hlt
   obtain ⟨⟨x,y,A2,n2,c2,l,b⟩,hq⟩ : ∃ q,q=L.getD j default:=⟨_,rfl⟩
   rw [← hq] at a0 a1 a2 a3
   simp only at a0 a1 a2 a3
   have HTK:=Lib.hid (show (L.take (j + 1)).map rvOf=(L.take j).map rvOf ++ [(⟨A2,n2,c2,l⟩ : RowV)] by
    rw [List.take_add_one,List.getElem?_eq_getElem hjL,List.map_append]
    have:L[j]=⟨x,y,A2,n2,c2,l,b⟩:=by rw [hq,List.getD_eq_getElem?_getD,List.getElem?_eq_getElem hjL];rfl
    rw [this];rfl)
   obtain ⟨O1,hO1⟩ : ∃ O1:Obj,O1=.cells #[.int .u32 x,.int .u64 y,.slice A2 n2 c2,.bool b] 45:=⟨_,rfl⟩
   have hW2:Below wr.heap.size wr ((wr.alloc O1).alloc (.cells #[.slice A2 n2 c2] 29)):=below_alloc (below_box wr O1) _
   have hsrc:Rws encRV ((wr.alloc O1).alloc (.cells #[.slice A2 n2 c2] 29)) ((wr.alloc O1).heap.size + 1) (some ⟨(wr.alloc O1).heap.size,0,none⟩) 1 1 [(⟨A2,n2,c2,l⟩ : RowV)]:=by
    have h:=(OwnR.rws encRV_len (OwnR.lit encRV_len (e:=29) (wr.alloc O1) [(⟨A2,n2,c2,l⟩ : RowV)] (by simp [maxLen]))).2
    simpa [cellsR,encRV,RowV.val] using h
   rw [show (wr.alloc O1).heap.size=wr.heap.size + 1 by simp,hO1] at hsrc
   rw [hO1] at hW2
   have HO2:=Lib.hid (OwnR.then_ HO.out hW2)
   have HSRC:=Lib.hid hsrc
   have HW2:=Lib.hid hW2
   clear hc hq hP hg hW2 hsrc hO1 O1
   go_wp2_with (at_builtin;refine wpList_append_rws encRV_len encRV_one Tryz.underlying124 infoRV (by decide) (by decide) ((wr.alloc (.cells #[.int .u32 x,.int .u64 y,.slice A2 n2 c2,.bool b] 45)).alloc (.cells #[.slice A2 n2 c2] 29)) rfl (.tmp 12) (.tmp 15) rfl w.heap.size _ _ _ _ (by rfl) HO2.out (wr.heap.size + 1 + 1) _ _ _ [(⟨A2,n2,c2,l⟩ : RowV)] (by rfl) HSRC.out (by unfold maxLen;omega) (by omega) (Nat.le_trans HB.out.size HW2.out.size) ?_;intro A3 c3 w3 ho3 hg3 _)
   have hb3:Below w.heap.size w w3:=OwnR.grownBelow HO2.out hg3 (HB.out.trans (HW2.out.mono HB.out.size)) (Nat.le_trans HB.out.size HW2.out.size)
   rw [← HTK.out] at ho3
   have HO3:=Lib.hid (And.intro ho3 hb3)
   clear ho3 hg3 hb3 HO2 HSRC HW2
   go_roundw
   case rel=>exact ⟨j + 1,A3,c3,by go_num,rfl,hjL,HO3.out.1,HO3.out.2,rfl⟩
   case measure=>simp [intOf];(have:=HMS.out;omega)
  ·have hjn:j=n:=by have:=HLN.out;omega
   subst hjn
   have hE:(L.take j).map rvOf=L.map rvOf:=by rw [List.take_of_length_le (by rw [HLN.out];exact Nat.le_refl _)]
   rw [hE] at HO
   go_wp2_with fail
   go_ret
   have hn2:=HLN.out
   refine ⟨A1,⟨c1,by rw [hn2];rfl⟩,fun h0=>?_,fun a h0 e=>?_,HB.out⟩
   rotate_left
   ·obtain ⟨g,e2,hg1,hg2⟩:=OwnR.pos_ HO.out (show 0<j by simpa [hn2] using h0)
    rw [e] at e2
    obtain rfl:=Option.some.inj e2
    exact hg1
   obtain ⟨g,e,hg1,hg2⟩:=OwnR.pos_ HO.out (show 0<j by simpa [hn2] using h0)
   subst e
   refine ⟨g,rfl,hg2,fun i hi=>?_⟩
   rw [List.length_map,hn2] at hi
   obtain ⟨g',o',e',_,hc⟩:=Rws.at_ encRV_len (OwnR.rws encRV_len HO.out).2 hi
   cases e'
   have hc1:=hc i hi 0 _ (by decide) rfl
   simp only [Nat.mul_one,Nat.add_zero,Nat.zero_add] at hc1
   have hi2:i<L.length:=by rw [hn2];exact hi
   have hgt:(L.map rvOf).getD i default=rvOf (L.getD i default):=by
    rw [List.getD_eq_getElem?_getD,List.getElem?_map,List.getD_eq_getElem?_getD,List.getElem?_eq_getElem hi2];rfl
   rw [hgt] at hc1 ⊢
   have hU:=(HH.out.then_ HB.out).getD_ hi
   refine ⟨hc1,hU.1,?_⟩
   have h1:=HL.out (L.getD i default) (by rw [List.getD_eq_getElem?_getD,List.getElem?_eq_getElem hi2];exact List.getElem_mem _)
   have h2:=hU.1.len
   show (L.getD i default).n≤1000
   omega
section
variable {w w':World} {D pa tx ls mk m:Nat} {k:Nat→Nat} {N:Int} {d:Pl.Dc}
def DoR (w:World) (D pa tx ls mk:Nat) (k:Nat→Nat) (N:Int) (d:Pl.Dc) (m:Nat) (u:Un) (e:Ending) (w':World):Prop :=
 ∃ k',e=.returned (.tuple #[])∧DocM w' D pa tx ls mk k' N { d with cs:=Pl.behind u d.cs } (m + 1)∧Mv k w k' w'
set_option maxHeartbeats 1000000 in
theorem do_any (h:DocM w D pa tx ls mk k N d m) (u:Un) (hf:Pl.Fit u d.cs.length) (hJ:Pl.J u.c) (hm:m + 1≤1073741824) (hcs:d.cs.length≤1000000) :
  Calls Tryz.prog 156 #[.pointer (some ⟨D,0,none⟩),uval u] w (DoR w D pa tx ls mk k N d m u):=by
 obtain ⟨kk,p,ch,x,y⟩:=u
 have HH:=Lib.hid h
 have HF:=Lib.hid hf
 have HJ:=Lib.hid hJ
 clear h hf hJ
 unfold uval
 simp only
 go_enter Tryz.func156,Tryz.ntmps156
 have hU:=uat_new w kk p ch x y
 have hB:=below_box w (.cells #[.int .i64 kk,.int .i64 p,.int .i32 ch,.int .u32 x,.int .u64 y] 47)
 by_cases h1:kk=1
 ·subst h1
  go_wp2_with fail
  generalize w.alloc (.cells #[.int .i64 1,.int .i64 p,.int .i32 ch,.int .u32 x,.int .u64 y] 47)=W at hU hB ⊢
  have hM:=HH.out.then_ hB
  obtain ⟨c0,c1,c2,c3,c4⟩:=hM.cells
  obtain ⟨u0,u1,u2,u3,u4⟩:=hU.cells
  obtain ⟨W2,hW2⟩ : ∃ W2,W2=W.drew.alloc (.cells #[.int .i32 ch] 41):=⟨_,rfl⟩
  have hb2:Below W.heap.size W W2:=by rw [hW2];exact below_drew (below_box W.drew _)
  have HM:=Lib.hid (hM.then_ hb2)
  have HB:=Lib.hid (below_then hB hb2)
  have hCr:Crs W2 W2.heap.size (some ⟨W.heap.size,0,none⟩) 1 1 [ch]:=by
   have h0:W2.heap[W.heap.size]?=some (.cells #[.int .i32 ch] 41 (0,0)):=by rw [hW2];exact heap_alloc_new W.drew _
   exact ⟨rfl,Nat.le_refl _,by unfold maxLen;omega,(fun e=>by cases e),(fun z hz=>by rw [List.mem_singleton.1 hz];exact HJ.out),fun _=>⟨W.heap.size,0,rfl,lt_of_block h0,fun i hi=>by
    obtain rfl:i=0:=by omega
    exact cell0 (r:=[]) h0⟩⟩
  obtain ⟨t,ht1,ht2⟩:=HM.out.tab
  have hfit:=HF.out
  have hok:=hfit.1
  have hp:=hfit.2.1 rfl
  have hpl:t.L.length=d.cs.length:=by rw [← Tbl.Tp.len_text,ht2]
  simp only at hp
  have hp0:0≤p:=by have:=hok;unfold Pl.Okay at this;simp only at this;omega
  have hI:=Tbl.ins_tb ht1 p (by unfold Tbl.Tp.I;omega) _ 1 1 [ch] hCr hm
  rw [hW2] at hI
  have HI:=Lib.hid hI
  have hre:Tbl.Tp.reachE t.L.length p 0=0:=by unfold Tbl.Tp.reachE;rw [if_neg];omega
  have htx:(Tbl.Tp.insT t p [ch]).text=Pl.behind ⟨1,p,ch,x,y⟩ d.cs:=by
   unfold Tbl.Tp.insT Pl.behind
   rw [if_pos hre,if_pos rfl,Tbl.Tp.ins_text ht1.ok,ht2,List.append_assoc]
   rfl
  have HTX:=Lib.hid htx
  have HW2:=Lib.hid hW2
  have hD2:=(hM.then_ hb2).cells.2.2.1
  have hlD:=lt_of_block (hM.then_ hb2).blk
  have hu2:=hU.then_ hb2
  have hkw:k w.heap.size=0:=by
   rcases Nat.eq_zero_or_pos (k w.heap.size) with h | h
   ·exact h
   ·have:=HH.out.lt w.heap.size (by omega)
    omega
  have HKP:=Lib.hid (fun (w3:World) (hd:Tbl.Did W2 (fun b=>k b=3) tx (Tbl.Tp.insT t p [ch]) (m + 1) w3)=>And.intro ((hd.choose_spec.2.1.cell (p:=⟨D,2,none⟩) hlD (by rw [show (⟨D,2,none⟩ : Addr).block=D from rfl,HH.out.kD];decide)).trans hD2) (And.intro ((hd.choose_spec.2.1.cell (p:=⟨w.heap.size,1,none⟩) hu2.lt (by rw [show (⟨w.heap.size,1,none⟩ : Addr).block=w.heap.size from rfl,hkw];decide)).trans hu2.cells.2.1) ((hd.choose_spec.2.1.cell (p:=⟨w.heap.size,2,none⟩) hu2.lt (by rw [show (⟨w.heap.size,2,none⟩ : Addr).block=w.heap.size from rfl,hkw];decide)).trans hu2.cells.2.2.1)))
  rw [hW2] at HKP
  clear hM hB hU hb2 hCr ht1 ht2 hre htx hpl hok hfit hI hW2 c0 c1 c3 c4 u0 u3 u4 hD2 hlD hu2 hkw
  go_region_held3 (fun w'=>w'.cell? ⟨D,2,none⟩=some (.pointer (some ⟨tx,0,none⟩))∧w'.cell? ⟨w.heap.size,1,none⟩=some (.int .i64 p)∧w'.cell? ⟨w.heap.size,2,none⟩=some (.int .i32 ch))
   (first | go_keep | (go_split_ands;exact HKP.out _ hd))
   (first | (go_at_call 211;refine HI.out.mono ?_;rintro e w3 ⟨rfl,hd⟩))
  rw [← HW2.out] at hd
  obtain ⟨k',h1,h2⟩:=HM.out.setC hd HTX.out
  exact ⟨rfl,_,results_none (by kernel_rfl) _ _ _,k',rfl,h1,(Mv.of k HB.out).trans h2⟩
 ·by_cases h2:kk=2
  ·subst h2
   go_wp2_with fail
   generalize w.alloc (.cells #[.int .i64 2,.int .i64 p,.int .i32 ch,.int .u32 x,.int .u64 y] 47)=W at hU hB ⊢
   have hM:=HH.out.then_ hB
   obtain ⟨c0,c1,c2,c3,c4⟩:=hM.cells
   obtain ⟨u0,u1,u2,u3,u4⟩:=hU.cells
   have HM:=Lib.hid hM.drew
   have HB:=Lib.hid (below_drawn hB)
   obtain ⟨t,ht1,ht2⟩:=HM.out.tab
   have hfit:=HF.out
   have hok:=hfit.1
   have hp:=hfit.2.2 rfl
   have hpl:t.L.length=d.cs.length:=by rw [← Tbl.Tp.len_text,ht2]
   simp only at hp
   have hp0:0≤p:=by have:=hok;unfold Pl.Okay at this;simp only at this;omega
   have HI:=Lib.hid (Tbl.del_tb ht1 p 1 (by unfold Tbl.Tp.I;omega))
   have hre:Tbl.Tp.reachE t.L.length p 1=0:=by unfold Tbl.Tp.reachE;rw [if_neg];omega
   have htx:(Tbl.Tp.delT t p 1).text=Pl.behind ⟨2,p,ch,x,y⟩ d.cs:=by
    unfold Tbl.Tp.delT Pl.behind
    rw [if_pos hre,if_neg (show ¬ (2:Int)=1 by decide),if_pos rfl,Tbl.Tp.del_text,ht2]
    rfl
   have HTX:=Lib.hid htx
   have hkw:k w.heap.size=0:=by
    rcases Nat.eq_zero_or_pos (k w.heap.size) with h | h
    ·exact h
    ·have:=HH.out.lt w.heap.size (by omega)
     omega
   have hlD:=lt_of_block HM.out.blk
   have HKP:=Lib.hid (fun (w3:World) (hd:Tbl.Did W.drew (fun b=>k b=3) tx (Tbl.Tp.delT t p 1) m w3)=>And.intro ((hd.choose_spec.2.1.cell (p:=⟨D,2,none⟩) hlD (by rw [show (⟨D,2,none⟩ : Addr).block=D from rfl,HH.out.kD];decide)).trans c2) ((hd.choose_spec.2.1.cell (p:=⟨w.heap.size,1,none⟩) hU.lt (by rw [show (⟨w.heap.size,1,none⟩ : Addr).block=w.heap.size from rfl,hkw];decide)).trans u1))
   clear hM hB hU ht1 ht2 hre htx hpl hok hfit c0 c1 c3 c4 u0 u2 u3 u4 hlD hkw
   go_region_held3 (fun w'=>w'.cell? ⟨D,2,none⟩=some (.pointer (some ⟨tx,0,none⟩))∧w'.cell? ⟨w.heap.size,1,none⟩=some (.int .i64 p))
    (first | go_keep | (go_split_ands;exact HKP.out _ hd))
    (first | (go_at_call 212;refine HI.out.mono ?_;rintro e w3 ⟨rfl,hd⟩))
   obtain ⟨k',h1,h2⟩:=HM.out.setC hd HTX.out
   obtain ⟨t2,ht3,ht4⟩:=h1.tab
   exact ⟨rfl,_,results_none (by kernel_rfl) _ _ _,k',rfl,⟨h1.blk,h1.past,⟨t2,ht3.mono (Nat.le_succ _) hm,ht4⟩,h1.les,h1.mks,h1.kD,h1.kp,h1.kl,h1.km,h1.lt⟩,(Mv.of k HB.out).trans h2⟩
  ·have z1:(kk == 1)=false:=by simpa using h1
   have z2:(kk == 2)=false:=by simpa using h2
   go_wp2_with fail
   have hd:=HH.out.then_ hB
   have he:Pl.behind ⟨kk,p,ch,x,y⟩ d.cs=d.cs:=by unfold Pl.behind;rw [if_neg h1,if_neg h2]
   obtain ⟨t,ht1,ht2⟩:=hd.tab
   refine ⟨rfl,_,results_none (by kernel_rfl) _ _ _,k,rfl,?_,Mv.of k hB⟩
   rw [he]
   exact ⟨hd.blk,hd.past,⟨t,ht1.mono (Nat.le_succ _) hm,ht2⟩,hd.les,hd.mks,hd.kD,hd.kp,hd.kl,hd.km,hd.lt⟩
end
end Go.Proofs.YtlgdcelgkiipaaaGreat
