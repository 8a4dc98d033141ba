/-
  What Leave and Snap do of their own; past's Drop, of any number. Conditions: those that each states.
  seats: who is at a document. Conditions: those that it states.
  What Who does of its own. Conditions: those that it states.
-/
import Derived.Test.YtlgdcelgkiipaaaGreatOc39
import Derived.StillTailTactics
import Derived.BigQuiet
set_option maxRecDepth 100000
set_option linter.unusedVariables false
namespace Go.Proofs.YtlgdcelgkiipaaaGreat
open Go.RowKit
open Pl (Un)
section
variable {w:World} {p:Nat} {F:Nat→Prop} {fr:Nat} {N:Int} {P:List Pl.Op}
set_option maxHeartbeats 400000 in
theorem drop_int (h:PastAt w p F fr N P) (hF:∀ b,w.heap.size≤b→F b) (kp:Int) (keep:Nat) (hkp:keep=kp.toNat) (hk:kp≤9223372036854775807) :
  Calls Tryz.prog 110 #[.pointer (some ⟨p,0,none⟩),.int .i64 kp] w (DropR w p F fr N P (P.length - keep)):=by
 have HL:=Lib.hid (len_past h)
 have hcnt:=h.fine.cnt
 obtain ⟨M,hM⟩ : ∃ M,M=P.length:=⟨_,rfl⟩
 rw [← hM] at HL hcnt ⊢
 have hmax:max kp 0=(keep:Int):=by omega
 have sMx:=Tbl.max_run kp 0 (keep:Int) hmax.symm
 have hk2:keep≤9223372036854775807:=by omega
 by_cases hle:M≤keep
 ·have HE:=Lib.hid (show DropR w p F fr N P (M - keep) (.returned (.int .i64 0)) w by
   rw [show M - keep=0 by omega]
   refine ⟨rfl,?_,Tn.refl _ _⟩
   rw [List.take_zero,Pl.total_nil,List.drop_zero,Int.add_zero]
   exact h)
  have hwr:wrap64 ((M:Int) - (keep:Int))=(M:Int) - (keep:Int):=by unfold wrap64;omega
  have hz1:¬ (0:Int)<(M:Int) - (keep:Int):=by omega
  have hz2:(M:Int) - (keep:Int)≤0:=by omega
  clear h hF hM hmax hkp
  go_enter Tryz.func110,Tryz.ntmps110
  go_wp2_with fail
  refine HL.out.mono ?_
  rintro e w' ⟨rfl,hw⟩
  rw [hw]
  clear hw
  go_wp2_with fail
  go_ret
  exact HE.out
 ·obtain ⟨gn,hgn⟩ : ∃ gn,gn=M - keep:=⟨_,rfl⟩
  rw [← hgn]
  have hwr:wrap64 ((M:Int) - (keep:Int))=(gn:Int):=by unfold wrap64;omega
  have hg0:0<gn:=by omega
  have HGM:=Lib.hid (show gn≤P.length by omega)
  have hg1:gn≤256:=by omega
  have hfr:fr≤1099511627776:=by have:=h.fine.rev;omega
  obtain ⟨A,n,c,B,m,d,L,hP⟩:=h
  obtain ⟨f1,hf1⟩ : ∃ f1,f1=fr + gn:=⟨_,rfl⟩
  have hw0:IntKind.u64.wrap ((fr:Int) + (gn:Int))=(f1:Int):=by rw [wrap_u64 (by omega) (by omega)];omega
  obtain ⟨c0,c1,c2⟩:=hP.cells
  have f0:=fun j=>hP.frozen j
  have hgn2:gn≤n:=by rw [hP.n_len,← hM];omega
  have hgm2:gn≤m:=by rw [hP.m_len,← hM];omega
  have sO:=slice_fromO A n c gn hgn2
  have sI:=slice_fromI B m d gn hgm2
  obtain ⟨W1,hW1⟩ : ∃ W1,W1=w.setCell ⟨p,0,none⟩ (.int .u64 (f1:Int)):=⟨_,rfl⟩
  have t1:Tn (fun b=>b=p) w W1:=by rw [hW1];exact (Tn.refl (fun b=>b=p) w).set_ (p:=⟨p,0,none⟩) (Or.inr rfl) _
  have hno:∀ b,F b→¬ b=p:=fun b hb e=>hP.no (by rw [← e];exact hb)
  have rO:=Rws.from_ encO_len (Rws.tn hP.ops.1 t1 (hP.ops.2.1.apart hno)) hgn2
  have rI:=Rws.from_ encI_len (Rws.tn hP.len t1 (hP.inB.apart hno)) hgm2
  have iI:In F (if d=gn then B else B.map (·.add (gn * 1))) (m - gn):=fun h0 ad e=>by
   by_cases hd:d=gn
   ·have:=hP.len.le;omega
   ·rw [if_neg hd] at e
    cases B with
    | none=>cases e
    | some b0 =>
     cases e
     have:=hP.inB (by omega) b0 rfl
     have e2:(b0.add (gn * 1)).block=b0.block:=by unfold Addr.add;split <;> rfl
     show F (b0.add (gn * 1)).block
     rw [e2];exact this
  obtain ⟨A',hA'⟩ : ∃ A',A'=(if c=gn then A else A.map (·.add (gn * 4))):=⟨_,rfl⟩
  obtain ⟨B',hB'⟩ : ∃ B',B'=(if d=gn then B else B.map (·.add (gn * 1))):=⟨_,rfl⟩
  obtain ⟨n',hn'⟩ : ∃ x,x=n - gn:=⟨_,rfl⟩
  obtain ⟨m',hm'⟩ : ∃ x,x=m - gn:=⟨_,rfl⟩
  obtain ⟨c',hc'⟩ : ∃ x,x=c - gn:=⟨_,rfl⟩
  obtain ⟨d',hd'⟩ : ∃ x,x=d - gn:=⟨_,rfl⟩
  rw [← hA',← hn',← hc'] at sO rO
  rw [← hB',← hm',← hd'] at sI rI
  rw [← hB',← hm'] at iI
  obtain ⟨L',hL'⟩ : ∃ L',L'=L.drop gn:=⟨_,rfl⟩
  obtain ⟨l',hl'⟩ : ∃ l',l'=(Pl.lens N P).drop gn:=⟨_,rfl⟩
  rw [← hL'] at rO
  rw [← hl'] at rI
  have HLD:=Lib.hid hL'
  have HLE:=Lib.hid hl'
  have HCO:=Lib.hid (cloneO_any A' n' c' L' W1 rO (by have:=hP.n_len;omega))
  have HRI:=Lib.hid rI
  have HII:=Lib.hid iI
  have HM1:=Lib.hid (show m'≤1000000 by have:=hP.m_len;omega)
  have HP:=Lib.hid hP
  have HF:=Lib.hid hF
  have HF1:=Lib.hid hf1
  have HW1:=Lib.hid hW1
  have HNO:=Lib.hid hno
  have HT1:=Lib.hid t1
  clear hmax hkp hP hF hf1 hM hW1 hgn hle hcnt hfr hgn2 hgm2 rO rI hA' hB' hn' hm' hc' hd' hno t1 iI hL' hl'
  go_enter Tryz.func110,Tryz.ntmps110
  go_wp2_with fail
  refine HL.out.mono ?_
  rintro e w' ⟨rfl,hw⟩
  rw [hw]
  clear hw HL
  go_wp2_with fail
  rw [← HW1.out]
  refine HCO.out.mono ?_
  rintro e W2 ⟨A2,c2',rfl,ho2,hb2⟩
  have hpl:=HP.out.lt
  have b2:W2.heap[p]?=some (.cells #[.int .u64 (f1:Int),.slice A n c,.slice B m d] 166 (0,0)):=below_old hb2 (by rw [HW1.out];exact blk_set (i:=0) HP.out.blk _) (Nat.lt_of_lt_of_le hpl HT1.out.size)
  have k0:=cell0 (r:=[.slice A n c,.slice B m d]) b2
  have k1:=cell1 (r:=[.slice B m d]) b2
  have k2:=cell2 (r:=[]) b2
  have kf:=fun j=>frozen_of_row W2 p j _ _ b2
  obtain ⟨W3,hW3⟩ : ∃ W3,W3=W2.setCell ⟨p,1,none⟩ (.slice A2 L'.length c2'):=⟨_,rfl⟩
  have t3:Tn (fun b=>b=p) W2 W3:=by rw [hW3];exact (Tn.refl (fun b=>b=p) W2).set_ (p:=⟨p,1,none⟩) (Or.inr rfl) _
  have HCI:=Lib.hid (cloneI_any B' m' d' l' W3 (Rws.tn (Rws.then_ HRI.out hb2) t3 (HII.out.apart HNO.out)) HM1.out)
  have b3:W3.heap[p]?=some (.cells #[.int .u64 (f1:Int),.slice A2 L'.length c2',.slice B m d] 166 (0,0)):=by rw [hW3];exact blk_set (i:=1) b2 _
  have hpl3:p<W3.heap.size:=lt_of_block b3
  have HB3:=Lib.hid b3
  have HPL:=Lib.hid hpl3
  have HW3:=Lib.hid hW3
  have HO2:=Lib.hid ho2
  have HB2:=Lib.hid hb2
  clear b2 hW3 t3 b3 hpl hpl3 ho2 hb2 c0 c1 c2 f0
  go_wp2_with fail
  rw [← HW3.out]
  refine HCI.out.mono ?_
  rintro e W4 ⟨B2,d2,rfl,ho4,hb4⟩
  have b4:=below_old hb4 HB3.out HPL.out
  have k2':=cell2 (r:=[]) b4
  have kf':=fun j=>frozen_of_row W4 p j _ _ b4
  have HFIN:=Lib.hid (HP.out.cut HLD.out HLE.out HF.out HGM.out HF1.out HW1.out HB2.out HO2.out HW3.out hb4 ho4)
  clear b4 ho4 hb4 k0 k1 k2 kf
  go_wp2_with fail
  go_ret
  exact ⟨rfl,HFIN.out.1,HFIN.out.2⟩
end
section
variable {w w':World} {D pa tx ls mk m al:Nat} {k k':Nat→Nat} {N:Int} {d d':Pl.Dc}
theorem DocM.dropMk (h:DocM w D pa tx ls mk k N d m) {c:Int} (hc:0≤c∧c<4294967296) (hg:(Pl.getM d.M c).isSome=true) :
  Calls Tryz.prog 113 #[.pointer (some ⟨mk,0,none⟩),.int .u32 c] w fun e w'=>e=.returned (.int .i64 0)∧DocM w' D pa tx ls mk k N { d with M:=Pl.delM d.M c } m∧Tn (fun b=>k b=8) w w':=by
 obtain ⟨mb,h5,h6⟩:=h.mks
 refine (dropM_any h5 hc hg).mono fun e w' h2=>?_
 have:=h.setM h6 h2.2.1 h2.2.2
 exact ⟨h2.1,this.1,h2.2.2.more fun b _ e=>by rw [e];exact h6⟩
theorem DocM.dropLs (h:DocM w D pa tx ls mk k N d m) {c:Int} (hc:0≤c∧c<4294967296) (hg:(Pl.getM d.L c).isSome=true) :
  Calls Tryz.prog 114 #[.pointer (some ⟨ls,0,none⟩),.int .u32 c] w fun e w'=>e=.returned (.int .i64 0)∧DocM w' D pa tx ls mk k N { d with L:=Pl.delM d.L c } m∧Tn (fun b=>k b=6) w w':=by
 obtain ⟨lb,h5,h6⟩:=h.les
 have hd:Pl.dropL d.L c=(0,Pl.delM d.L c):=if_neg fun hn=>by rw [hn] at hg;cases hg
 refine (Ls.drop_any h5 hc).mono fun e w' h2=>?_
 rw [hd] at h2
 have:=h.setL h6 h2.2.1 h2.2.2
 exact ⟨h2.1,this.1,h2.2.2.more fun b _ e=>by rw [e];exact h6⟩
theorem OwnD.plain (hv:Mv k w k' w') (h:DocM w' D pa tx ls mk k' d'.cs.length d' m) (hA:AnAt w al 0 0 false none 0 0 none 0 0 none 0 0) (hka:k al=0):OwnD w D pa tx ls mk al k m (d',Pl.fails 0) (.returned (.int .i64 0)) w' :=
 ⟨k',m,rfl,h,Nat.le_add_right _ _,hv.tn.more fun b _ h=>Or.inl h,hv.eq,fun _=>⟨none,0,0,none,0,0,none,0,0,hv.old hA hka,AnR.none_ _ _ _ _ _⟩⟩
set_option maxHeartbeats 2000000 in
theorem leave1_any (h:DocM w D pa tx ls mk k d.cs.length d m) (hok:d.Ok) {c:Int} (hc:0≤c∧c<4294967296) (now:Int) (hl:Pl.liveM d.L c now=true) (hA:AnAt w al 0 0 false none 0 0 none 0 0 none 0 0) (hka:k al=0) (b1 b2:Nat)
  (e1:w.heap[b1]?=some (.cells #[.pointer (some ⟨D,0,none⟩)] 23 (0,0))) (e2:w.heap[b2]?=some (.cells #[.int .u32 c] 28 (0,0))) (hk:k b1=0∧k b2=0) :
  Calls Tryz.prog 112 #[.pointer (some ⟨al,0,none⟩),.pointer (some ⟨b1,0,none⟩),.pointer (some ⟨b2,0,none⟩)] w (OwnD w D pa tx ls mk al k m ({ d with L:=Pl.delM d.L c,M:=Pl.delM d.M c },Pl.fails 0)):=by
 obtain ⟨R,hR⟩ : ∃ R,R=OwnD w D pa tx ls mk al k m ({ d with L:=Pl.delM d.L c,M:=Pl.delM d.M c },Pl.fails 0):=⟨_,rfl⟩
 rw [← hR]
 have HR:=Lib.hid hR
 have hgl:(Pl.getM d.L c).isSome=true:=by
  cases h1:Pl.getM d.L c with
  | none=>rw [Pl.live_none h1] at hl;cases hl
  | some v=>rfl
 have hgm:(Pl.getM d.M c).isSome=true:=by
  cases h1:Pl.getM d.M c with
  | none=>rw [(hok.m.who c).1 h1] at hgl;cases hgl
  | some v=>rfl
 have HH:=Lib.hid h
 have HA:=Lib.hid hA
 have HX:=Lib.hid (And.intro e1 e2)
 have HK:=Lib.hid hk
 have HKA:=Lib.hid hka
 have HC:=Lib.hid hc
 have HGL:=Lib.hid hgl
 have HMK:=Lib.hid (h.drew.dropMk hc hgm)
 obtain ⟨d0,d1,d2,d3,d4⟩:=h.cells
 have HK8:=Lib.hid (fun (wM:World) (ht:Tn (fun b=>k b=8) w.drew wM)=>And.intro ((cell0 (r:=[]) (ht.old (w:=w.drew) e1 (by rw [hk.1];decide)))) (And.intro (ht.cell (p:=⟨D,4,none⟩) (lt_of_block h.blk) (by rw [show (⟨D,4,none⟩ : Addr).block=D from rfl,h.kD];decide) |>.trans d4) (cell0 (r:=[]) (ht.old (w:=w.drew) e2 (by rw [hk.2];decide)))))
 have x1:=cell0 (r:=[]) e1
 have x2:=cell0 (r:=[]) e2
 clear h hR hok hl hA e1 e2 hk hc hka hgl hgm d0 d1 d2 d3
 go_enter Tryz.func112,Tryz.ntmps112
 go_wp2_with fail
 go_region_held3 (fun w'=>w'.cell? ⟨b1,0,none⟩=some (.pointer (some ⟨D,0,none⟩))∧w'.cell? ⟨D,4,none⟩=some (.pointer (some ⟨mk,0,none⟩))∧w'.cell? ⟨b2,0,none⟩=some (.int .u32 c))
  (first | go_keep | (go_split_ands;exact HK8.out _ htM))
  (first | (go_at_call 113;refine (HMK.out).mono ?_;rintro e wM ⟨rfl,hdM,htM⟩))
 have hvM:Mv k w k wM:=(Mv.of k (below_drawn (Below.refl _ _))).trans ⟨htM.more fun _ _ e=>by rw [e];decide,fun _ _=>rfl⟩
 have y1:=hvM.old HX.out.1 HK.out.1
 have y2:=hvM.old HX.out.2 HK.out.2
 have HM:=Lib.hid (And.intro hdM hvM)
 have HLS:=Lib.hid (hdM.drew.dropLs HC.out HGL.out)
 clear htM HMK HK8 d4 x1 x2
 obtain ⟨d0,d1,d2,d3,d4⟩:=hdM.cells
 have HK6:=Lib.hid (fun (wL:World) (ht:Tn (fun b=>k b=6) wM.drew wL)=>And.intro ((cell0 (r:=[]) (ht.old (w:=wM.drew) y1 (by rw [HK.out.1];decide)))) (And.intro (ht.cell (p:=⟨D,3,none⟩) (lt_of_block hdM.blk) (by rw [show (⟨D,3,none⟩ : Addr).block=D from rfl,hdM.kD];decide) |>.trans d3) (cell0 (r:=[]) (ht.old (w:=wM.drew) y2 (by rw [HK.out.2];decide)))))
 have x1:=cell0 (r:=[]) y1
 have x2:=cell0 (r:=[]) y2
 clear hdM hvM y1 y2 d0 d1 d2 d4
 go_wp2_with fail
 go_region_held3 (fun w'=>w'.cell? ⟨b1,0,none⟩=some (.pointer (some ⟨D,0,none⟩))∧w'.cell? ⟨D,3,none⟩=some (.pointer (some ⟨ls,0,none⟩))∧w'.cell? ⟨b2,0,none⟩=some (.int .u32 c))
  (first | go_keep | (go_split_ands;exact HK6.out _ htL))
  (first | (go_at_call 114;refine (HLS.out).mono ?_;rintro e wL ⟨rfl,hdL,htL⟩))
 have hvL:Mv k w k wL:=(HM.out.2.then_ (below_drawn (Below.refl _ _))).trans ⟨htL.more fun b _ e=>by rw [e];decide,fun _ _=>rfl⟩
 have HF:=Lib.hid (OwnD.plain (d':={ d with L:=Pl.delM d.L c,M:=Pl.delM d.M c }) hvL hdL HA.out HKA.out)
 clear hvL hdL htL
 go_wp2_with fail
 rw [HR.out]
 exact HF.out
set_option maxHeartbeats 2000000 in
theorem snap1_any (h:DocM w D pa tx ls mk k d.cs.length d m) (kp:Int) (hkp:kp≤9223372036854775807) (hA:AnAt w al 0 0 false none 0 0 none 0 0 none 0 0) (hka:k al=0) (b1 b2:Nat)
  (e1:w.heap[b1]?=some (.cells #[.pointer (some ⟨D,0,none⟩)] 23 (0,0))) (e2:w.heap[b2]?=some (.cells #[.int .i64 kp] 3 (0,0))) (hk:k b1=0∧k b2=0) :
  Calls Tryz.prog 109 #[.pointer (some ⟨al,0,none⟩),.pointer (some ⟨b1,0,none⟩),.pointer (some ⟨b2,0,none⟩)] w (OwnD w D pa tx ls mk al k m (d.cut (d.gone kp),Pl.fails 0)):=by
 obtain ⟨R,hR⟩ : ∃ R,R=OwnD w D pa tx ls mk al k m (d.cut (d.gone kp),Pl.fails 0):=⟨_,rfl⟩
 rw [← hR]
 have HR:=Lib.hid hR
 have HH:=Lib.hid h
 have HA:=Lib.hid hA
 have HX:=Lib.hid (And.intro e1 e2)
 have HK:=Lib.hid hk
 have HKA:=Lib.hid hka
 have hz:w.drew.heap.size=w.heap.size:=rfl
 have hp:=(h.drew.past.more (G:=fun b=>k b=2∨w.drew.heap.size≤b) (fun b hb=>Or.inl hb) (fun e=>by
  rcases e with e | e
  ·rw [h.kp] at e;cases e
  ·have:=h.lt pa (by rw [h.kp];decide);omega))
 have HMK:=Lib.hid (drop_int hp (fun b hb=>Or.inr hb) kp kp.toNat rfl hkp)
 obtain ⟨d0,d1,d2,d3,d4⟩:=h.cells
 have HK8:=Lib.hid (fun (wM:World) (ht:Tn (fun b=>b=pa) w.drew wM)=>And.intro ((cell0 (r:=[]) (ht.old (w:=w.drew) e1 (fun e=>by rw [e,h.kp] at hk;cases hk.1)))) (And.intro (ht.cell (p:=⟨D,1,none⟩) (lt_of_block h.blk) (fun e=>by have h1:=h.kp;rw [← show D=pa from e,h.kD] at h1;cases h1) |>.trans d1) (cell0 (r:=[]) (ht.old (w:=w.drew) e2 (fun e=>by rw [e,h.kp] at hk;cases hk.2)))))
 have x1:=cell0 (r:=[]) e1
 have x2:=cell0 (r:=[]) e2
 clear h hR hA e1 e2 hk hka d0 d2 d3 d4 hp hz
 go_enter Tryz.func109,Tryz.ntmps109
 go_wp2_with fail
 go_region_held3 (fun w'=>w'.cell? ⟨b1,0,none⟩=some (.pointer (some ⟨D,0,none⟩))∧w'.cell? ⟨D,1,none⟩=some (.pointer (some ⟨pa,0,none⟩))∧w'.cell? ⟨b2,0,none⟩=some (.int .i64 kp))
  (first | go_keep | (go_split_ands;exact HK8.out _ htM))
  (first | (go_at_call 110;refine (HMK.out).mono ?_;rintro e wM ⟨rfl,hpM,htM⟩))
 obtain ⟨k1,hd1,hv1⟩:=HH.out.drew.setP hpM htM
 have hvM:Mv k w k1 wM:=(Mv.of k (below_drawn (Below.refl _ _))).trans hv1
 have y1:=hvM.old HX.out.1 HK.out.1
 have x1:=cell0 (r:=[]) y1
 obtain ⟨t,ht1,ht2⟩:=hd1.tab
 have HFL:=Lib.hid (Tbl.flat_tb ht1)
 have HT2:=Lib.hid ht2
 have HM:=Lib.hid (And.intro hd1 hvM)
 obtain ⟨d0,d1,d2,d3,d4⟩:=hd1.cells
 clear hpM htM hd1 hv1 hvM HMK HK8 ht1 ht2 y1
 go_wp2_with fail
 refine HFL.out.mono ?_
 rintro e wF ⟨rfl,hdid⟩
 obtain ⟨k2,hd2,hv2⟩:=HM.out.1.setC hdid (Tbl.Tp.fresh_text t.text)
 have HF:=Lib.hid (OwnD.plain (d':=d.cut (d.gone kp)) (HM.out.2.trans hv2) (by rw [HT2.out] at hd2;exact hd2) HA.out HKA.out)
 clear hdid hd2 hv2
 go_wp2_with fail
 rw [HR.out]
 exact HF.out
end
open Go.RowKit
open Pl (Un)
theorem encSe_one (s:Int × Int × Int):∀ v ∈ encSe s,v.oneCell'=true:=by
 intro v hv
 simp only [encSe,List.mem_cons,List.not_mem_nil,or_false] at hv
 rcases hv with rfl | rfl | rfl <;> rfl
theorem infoSe:(Tryz.prog.info? 79).map (fun i=>(i.zero,i.size,i.bytes))=some (some (.agg #[.int .u32 0,.int .i64 0,.int .u64 0]),3,24):=by kernel_rfl
def StR (w:World) (L:List (Int × Int × Int)) (s i:Value) (wr:World):Prop:=∃ (j:Nat) (A:Option Addr) (c:Nat),i=.int .i64 (j:Int)∧s=.slice A j c∧j≤L.length∧OwnR encSe 3 79 wr w.heap.size (.slice A j c) (L.take j)∧Below w.heap.size w wr
def RetS (w:World) (L:List (Int × Int × Int)) (e:Ending) (w':World):Prop:=∃ A c,e=.returned (.slice A L.length c)∧OwnR encSe 3 79 w' w.heap.size (.slice A L.length c) L∧Below w.heap.size w w'
section
variable {w:World} {D pa tx ls mk m:Nat} {k:Nat→Nat} {N:Int} {d:Pl.Dc}
set_option maxHeartbeats 1000000 in
theorem seats_any (h:DocM w D pa tx ls mk k N d m) (hok:d.Ok) :
  Calls Tryz.prog 88 #[.pointer (some ⟨D,0,none⟩)] w (RetS w d.seats):=by
 obtain ⟨lb,hl,_⟩:=h.les
 obtain ⟨d0,d1,d2,d3,d4⟩:=h.cells
 have HAL:=Lib.hid (Ls.all_la hl)
 have HH:=Lib.hid h
 have HFAR:=Lib.hid hok.m.far
 have HFEW:=Lib.hid hok.m.few
 have HSL:=Lib.hid (show d.seats.length=d.L.length by unfold Pl.Dc.seats;rw [List.length_map])
 clear h hl hok d0 d1 d2 d4
 go_enter Tryz.func88,Tryz.ntmps88
 go_wp2_with fail
 refine HAL.out.mono ?_
 rintro e w1 ⟨A0,c0,rfl,hr,_,hb⟩
 have HB1:=Lib.hid hb
 have HR1:=Lib.hid hr
 obtain ⟨n,hn⟩ : ∃ n,n=d.L.length:=⟨_,rfl⟩
 rw [← hn] at HR1 ⊢
 have HN:=Lib.hid hn
 have hn16:n≤16:=by rw [hn];exact HFEW.out
 clear hb hr hn HAL d3
 go_wp2_with fail
 go_loopw [3,14] (fun s i wr=>StR w1 d.seats s i wr) (fun _ i _=>n - (intOf i).toNat)
 case atStart=>exact ⟨0,none,0,rfl,rfl,Nat.zero_le _,OwnR.nil_ _ _ _ _ _,Below.refl _ _⟩
 case round =>
  obtain ⟨j,A,c,rfl,rfl,hj,ho,hb⟩:=hrel
  have HO:=Lib.hid ho
  have HB:=Lib.hid hb
  by_cases hlt:j<n
  ·have z0:(0:Int)≤(j:Int):=Int.natCast_nonneg _
   have z1:(j:Int)<(n:Int):=Int.ofNat_lt.2 hlt
   obtain ⟨g,o,rfl,_,hc⟩:=Rws.at_ Ls.encLs_len (Rws.then_ HR1.out hb) hlt
   have a0:=hc j hlt 0 _ (by decide) rfl
   have a1:=hc j hlt 1 _ (by decide) rfl
   have hjl:j<d.L.length:=by rw [← HN.out];exact hlt
   have HTK:=Lib.hid (show d.seats.take (j + 1)=d.seats.take j ++ [((d.L.getD j default).1,(Pl.getM d.M (d.L.getD j default).1).getD 0,(d.L.getD j default).2)] by
    rw [List.take_succ_eq_append_getElem (by rw [HSL.out];exact hjl),List.getD_eq_getElem?_getD,List.getElem?_eq_getElem hjl]
    unfold Pl.Dc.seats
    rw [List.getElem_map]
    rfl)
   have hfar:=HFAR.out (d.L.getD j default) (by rw [List.getD_eq_getElem?_getD,List.getElem?_eq_getElem hjl];exact List.getElem_mem hjl)
   obtain ⟨⟨x,v⟩,hx⟩ : ∃ q,q=d.L.getD j default:=⟨_,rfl⟩
   rw [← hx] at a0 a1 HTK hfar
   simp only at hfar HTK
   obtain ⟨pos,hpos⟩ : ∃ p,p=(Pl.getM d.M x).getD 0:=⟨_,rfl⟩
   have HM:=Lib.hid (HTK.out)
   rw [← hpos] at HM
   have HP:=Lib.hid hpos
   simp only [Nat.add_zero,← Nat.add_assoc] at a0 a1
   have HX:=Lib.hid (show 0≤x∧x<4294967296 by omega)
   obtain ⟨wL,hwL⟩ : ∃ z,z=wr.alloc (.cells #[.int .u32 x,.int .u64 v] 169):=⟨_,rfl⟩
   have hbx:Below wr.heap.size wr wL:=by rw [hwL];exact below_box _ _
   have e5:wL.heap[wr.heap.size]?=some (.cells #[.int .u32 x,.int .u64 v] 169 (0,0)):=by rw [hwL];exact heap_alloc_new _ _
   have hdL:=(HH.out.then_ (below_then HB1.out HB.out)).then_ hbx
   obtain ⟨d0,d1,d2,d3,d4⟩:=hdL.cells
   have x5:=cell0 e5
   have HG:=Lib.hid (fun q=>by
    obtain ⟨mb,h5,_⟩:=(hdL.drewN q).mks
    have:=getM_any h5 HX.out
    unfold gotM at this
    rw [← HP.out] at this
    exact this)
   have HWL:=Lib.hid hwL
   have HE5:=Lib.hid e5
   have HBL:=Lib.hid (below_then HB.out hbx)
   have HOL:=Lib.hid (OwnR.then_ HO.out hbx)
   have HMS:=Lib.hid (show n - (j + 1)<n - j by omega)
   have HJ:=Lib.hid (show j + 1≤d.seats.length by rw [HSL.out];exact hjl)
   clear ho hb hj hc hjl hfar hx hpos hwL hbx e5 hdL d0 d1 d2 d3 HTK
   go_wp2_with fail
   rw [← HWL.out]
   go_quiet ((go_at_call 176;exact quiet_of (HG.out _)))
   obtain ⟨wq,hwq⟩ : ∃ z,z=wL.drewN nq:=⟨_,rfl⟩
   rw [← hwq]
   have hbq:Below wL.heap.size wL wq:=by rw [hwq];exact below_drewN _ _
   have y5:=below_old hbq HE5.out (lt_of_block HE5.out)
   have x51:wq.cell? ⟨wr.heap.size,1,none⟩=some (.int .u64 v):=by rw [cell_of_row wq wr.heap.size _ _ _ _ y5];rfl
   clear x5
   have x5:=cell0 y5
   have hab:=below_box wq (.cells #[.int .u32 x,.int .i64 pos,.int .u64 v] 79)
   have hlit:OwnR encSe 3 79 (wq.alloc (.cells #[.int .u32 x,.int .i64 pos,.int .u64 v] 79)) wq.heap.size (.slice (some ⟨wq.heap.size,0,none⟩) 1 1) [(x,pos,v)]:=OwnR.lit (e:=79) encSe_len wq [(x,pos,v)] (by simp [maxLen])
   have HOW:=Lib.hid (OwnR.then_ (OwnR.then_ HOL.out hbq) hab)
   have HRW:=Lib.hid (hlit.rws encSe_len).2
   have HB5:=Lib.hid (below_then (below_then HBL.out hbq) hab)
   have hsz:=HB5.out.size
   clear hwq hbq y5 hab hlit d4 a0 a1
   go_wp2_with (at_builtin;refine wpList_append_rws encSe_len encSe_one Tryz.underlying35 infoSe (by decide) (by decide) (wq.alloc (.cells #[.int .u32 x,.int .i64 pos,.int .u64 v] 79)) rfl (.tmp 28) (.tmp 35) rfl w1.heap.size A j c (d.seats.take j) (by rfl) HOW.out _ (some ⟨wq.heap.size,0,none⟩) 1 1 [(x,pos,v)] (by rfl) HRW.out (by unfold maxLen;omega) (by omega) hsz ?_)
   intro A6 c6 w6 h6 hg6 _
   rw [← HM.out] at h6
   have HO6:=Lib.hid h6
   have HB6:=Lib.hid (OwnR.grownBelow HOW.out hg6 HB5.out hsz)
   clear h6 hg6 hsz x5 x51
   go_wp2_with fail
   go_roundw
   case rel=>exact ⟨j + 1,A6,c6,by go_num,rfl,HJ.out,HO6.out,HB6.out⟩
   case measure=>simp [intOf];(have:=HMS.out;omega)
  ·have hjn:j=n:=by rw [HSL.out,← HN.out] at hj;omega
   obtain rfl:j=d.seats.length:=by rw [HSL.out,← HN.out];exact hjn
   rw [List.take_length] at ho
   have HOE:=Lib.hid (OwnR.lower ho HB1.out.size)
   have HBE:=Lib.hid (below_then HB1.out HB.out)
   have z1:¬ ((d.seats.length:Nat):Int)<(n:Int):=by omega
   clear ho hb hj hjn hlt HO
   go_wp2_with fail
   go_ret
   exact ⟨A,c,rfl,HOE.out,HBE.out⟩
end
open Go.RowKit
open Pl (Un)
section
variable {w:World} {D pa tx ls mk m al:Nat} {k:Nat→Nat} {d:Pl.Dc}
set_option maxHeartbeats 2000000 in
theorem who1_any (h:DocM w D pa tx ls mk k d.cs.length d m) (hok:d.Ok) {c:Int} (hc:0≤c∧c<4294967296) (now:Int) (h0:0≤now) (hnow:now≤1099511627776) (hl:Pl.liveM d.L c now=true) (hA:AnAt w al 0 0 false none 0 0 none 0 0 none 0 0) (hka:k al=0) (b1 b2 b3:Nat)
  (e1:w.heap[b1]?=some (.cells #[.pointer (some ⟨D,0,none⟩)] 23 (0,0))) (e2:w.heap[b2]?=some (.cells #[.int .u32 c] 28 (0,0))) (e3:w.heap[b3]?=some (.cells #[.int .u64 now] 27 (0,0))) (hk:k b1=0∧k b2=0∧k b3=0) :
  Calls Tryz.prog 104 #[.pointer (some ⟨al,0,none⟩),.pointer (some ⟨b1,0,none⟩),.pointer (some ⟨b2,0,none⟩),.pointer (some ⟨b3,0,none⟩)] w (OwnD w D pa tx ls mk al k m (d.renewed c now,{ Pl.fails 0 with seats:=(d.renewed c now).seats })):=by
 obtain ⟨R,hR⟩ : ∃ R,R=OwnD w D pa tx ls mk al k m (d.renewed c now,{ Pl.fails 0 with seats:=(d.renewed c now).seats }):=⟨_,rfl⟩
 rw [← hR]
 have HR:=Lib.hid hR
 have HA:=Lib.hid hA
 have HX:=Lib.hid (And.intro e1 (And.intro e2 e3))
 have HK:=Lib.hid hk
 have HKA:=Lib.hid hka
 have HLT:=Lib.hid h.lt
 have HO:=Lib.hid (show (d.renewed c now).Ok from Pl.Dc.ok_renewed hok (Pl.live_get hl) (by omega) (by omega) (by omega))
 have hS:=h.drew.setLs hc now h0
 rw [Pl.Dc.set_live hl (by omega)] at hS
 have HS:=Lib.hid hS
 obtain ⟨d0,d1,d2,d3,d4⟩:=h.cells
 have HK4:=Lib.hid (fun (wS:World) (ht:Tn (fun b=>k b=6) w.drew wS)=>And.intro ((cell0 (r:=[]) (ht.old (w:=w.drew) e1 (by rw [hk.1];decide)))) (And.intro (ht.cell (p:=⟨D,3,none⟩) (lt_of_block h.blk) (by rw [show (⟨D,3,none⟩ : Addr).block=D from rfl,h.kD];decide) |>.trans d3) (And.intro (cell0 (r:=[]) (ht.old (w:=w.drew) e2 (by rw [hk.2.1];decide))) (cell0 (r:=[]) (ht.old (w:=w.drew) e3 (by rw [hk.2.2];decide))))))
 have x1:=cell0 (r:=[]) e1
 have x2:=cell0 (r:=[]) e2
 have x3:=cell0 (r:=[]) e3
 clear h hok hR hl hA e1 e2 e3 hk hc hka hS d0 d1 d2 d4
 go_enter Tryz.func104,Tryz.ntmps104
 go_wp2_with fail
 go_region_held3 (fun w'=>w'.cell? ⟨b1,0,none⟩=some (.pointer (some ⟨D,0,none⟩))∧w'.cell? ⟨D,3,none⟩=some (.pointer (some ⟨ls,0,none⟩))∧w'.cell? ⟨b2,0,none⟩=some (.int .u32 c)∧w'.cell? ⟨b3,0,none⟩=some (.int .u64 now))
  (first | go_keep | (go_split_ands;exact HK4.out _ htS))
  (first | (go_at_call 64;refine (HS.out).mono ?_;rintro e wS ⟨rfl,hdS,htS⟩))
 have hvS:Mv k w k wS:=(Mv.of k (below_drawn (Below.refl _ _))).trans ⟨htS.more fun _ _ e=>by rw [e];decide,fun _ _=>rfl⟩
 have x1:=cell0 (r:=[]) (hvS.old HX.out.1 HK.out.1)
 have hds:DocM wS D pa tx ls mk k d.cs.length (d.renewed c now) m:=hdS
 have HD:=Lib.hid (And.intro hds hvS)
 have HST:=Lib.hid (seats_any hds HO.out)
 have HAS:=Lib.hid (hvS.old HA.out HKA.out)
 clear hdS htS hds hvS HS HK4 x2 x3 d3
 go_wp2_with fail
 refine HST.out.mono ?_
 rintro e wT ⟨A,c3,rfl,ho,hb⟩
 obtain ⟨L,hL⟩ : ∃ L,L=(d.renewed c now).seats:=⟨_,rfl⟩
 rw [← hL] at ho ⊢
 obtain ⟨n,hn⟩ : ∃ n,n=L.length:=⟨_,rfl⟩
 rw [← hn] at ho ⊢
 have hAT:AnAt wT al 0 0 false none 0 0 none 0 0 none 0 0:=below_old hb HAS.out (lt_of_block HAS.out)
 have hal:al<wS.heap.size:=lt_of_block HAS.out
 obtain ⟨c0,c1,c2,c4,c5,c6,c7⟩:=hAT.cells
 have g7:=hAT.frozen
 have ht:Tn (fun b=>b=al) wT (wT.setCell ⟨al,6,none⟩ (.slice A n c3)):=(Tn.refl (fun b=>b=al) wT).set_ (p:=⟨al,6,none⟩) (Or.inr rfl) _
 have HF:=Lib.hid (show OwnD w D pa tx ls mk al k m (d.renewed c now,{ Pl.fails 0 with seats:=L }) (.returned (.int .i64 0)) (wT.setCell ⟨al,6,none⟩ (.slice A n c3)) from by
  have hv:=HD.out.2.then_ hb
  have hrw:=(OwnR.tn ho ht (fun g hg e=>by have:=(ho.lt g hg).1;omega))
  refine ⟨k,m,rfl,(HD.out.1.then_ hb).tn ht (fun b hb e=>hb (by rw [e];exact HKA.out)),Nat.le_add_right _ _,(hv.tn.more fun b _ h=>Or.inl h).trans ht (fun b _ h=>Or.inr h),fun _ _=>rfl,fun _=>?_⟩
  refine ⟨none,0,0,none,0,0,A,n,c3,?_,⟨⟨Crs.none_ _ _,fun h=>absurd h (by decide)⟩,⟨[],OpsF.none_ _ _,rfl⟩,⟨(OwnR.rws encSe_len hrw).2,fun _ ad e=>?_⟩⟩⟩
  ·have:=blk_set (i:=6) hAT (.slice A n c3)
   simp only [List.setIfInBounds_toArray,List.set_cons_succ,List.set_cons_zero] at this
   exact this
  ·subst e
   have h1:=(ho.lt _ rfl).1
   have h2:=HD.out.2.tn.size
   refine ⟨Nat.le_trans h2 h1,?_⟩
   rcases Nat.eq_zero_or_pos (k ad.block) with h | h
   ·exact h
   ·have:=HLT.out ad.block (by omega);omega)
 clear ho hb ht hAT hn HAS HST c0 c1 c2 c4 c5 c6
 go_wp2_with fail
 rw [HR.out,← hL]
 exact HF.out
end
end Go.Proofs.YtlgdcelgkiipaaaGreat
