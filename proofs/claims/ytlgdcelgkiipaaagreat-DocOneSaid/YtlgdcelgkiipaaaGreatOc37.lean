/-
  doc's commit. Conditions: the document is one, the row has at most 256 units.
  slices.ContainsFunc at units, for any closure whose contract is known; Edit's own closure. Conditions: those that each states.
-/
import Derived.Test.YtlgdcelgkiipaaaGreatOc36
set_option maxRecDepth 100000
set_option linter.unusedVariables false
namespace Go.Proofs.YtlgdcelgkiipaaaGreat
open Go.RowKit
open Pl (Un)
theorem j_okay {u:Un} (h:Pl.Okay u):Pl.J u.c:=by
 unfold Pl.Okay Pl.May at h
 unfold Pl.J
 omega
section
variable {w w':World} {D pa tx ls mk m:Nat} {k:Nat→Nat} {N:Int} {d:Pl.Dc}
def CommitR (w:World) (D pa tx ls mk:Nat) (k:Nat→Nat) (m:Nat) (dd:Pl.Dc) (E:Int) (e:Ending) (w':World):Prop :=
 ∃ k' m',e=.returned (.int .i64 E)∧DocM w' D pa tx ls mk k' dd.cs.length dd m'∧m'≤m + 256∧Mv k w k' w'
theorem CommitR.bad {E:Int} (h:DocM w D pa tx ls mk k d.cs.length d m) (hb:Below w.heap.size w w'):CommitR w D pa tx ls mk k m d E (.returned (.int .i64 E)) w' :=
 ⟨k,m,rfl,h.then_ hb,Nat.le_add_right _ _,Mv.of k hb⟩
def CmI (w5:World) (D pa tx ls mk:Nat) (k5:Nat→Nat) (N:Int) (d:Pl.Dc) (m:Nat) (A:Option Addr) (n c:Nat) (R:List Un) (i:Value) (wr:World):Prop :=
 ∃ (j:Nat) (k':Nat→Nat),i=.int .i64 (j:Int)∧j≤n∧DocM wr D pa tx ls mk k' N { d with cs:=Pl.leave (R.take j) d.cs } (m + j)∧Mv k5 w5 k' wr∧Uns wr wr.heap.size A n c R
set_option maxHeartbeats 4000000 in
theorem commit_any (h:DocM w D pa tx ls mk k d.cs.length d m) (hok:d.Ok) (x y:Int) (A:Option Addr) (n c:Nat) (row:List Un) (hu:Uns w w.heap.size A n c row) (hn:n≤256) (hm:m + 256≤1073741824) :
  Calls Tryz.prog 75 #[.pointer (some ⟨D,0,none⟩),.agg #[.int .u32 x,.int .u64 y],.slice A n c] w (CommitR w D pa tx ls mk k m (if d.bars row=0 then d.behind x y row else d) (d.bars row)):=by
 obtain ⟨R0,hR0⟩ : ∃ R0,R0=CommitR w D pa tx ls mk k m (if d.bars row=0 then d.behind x y row else d) (d.bars row):=⟨_,rfl⟩
 rw [← hR0]
 have HR0:=Lib.hid hR0
 have HH:=Lib.hid h
 have HO:=Lib.hid hok
 have HCS:=Lib.hid hok.p.lt4096
 have hrl:=hu.len
 have HRL:=Lib.hid hrl
 have HU:=Lib.hid hu
 clear h hok hR0 hu hrl
 go_enter Tryz.func75,Tryz.ntmps75
 go_wp2_with fail
 have hb1:=below_box w (.cells #[.int .u32 x,.int .u64 y] 43)
 have he1:=heap_alloc_new w (.cells #[.int .u32 x,.int .u64 y] 43)
 generalize w.alloc (.cells #[.int .u32 x,.int .u64 y] 43)=W1 at hb1 he1 ⊢
 have HB1:=Lib.hid hb1
 have HE1:=Lib.hid he1
 have HX:=Lib.hid (Rws.then_ HU.out hb1)
 clear hb1 he1
 refine (clean_any A n c row W1 HX.out (by omega)).mono ?_
 rintro e w2 ⟨A2,c2,rfl,ho2,hb2⟩
 have hcl:=Pl.clean_le row
 obtain ⟨C,hC⟩ : ∃ C,C=Pl.cleanL row:=⟨_,rfl⟩
 rw [← hC] at ho2 hcl ⊢
 obtain ⟨q,hq⟩ : ∃ q,q=C.length:=⟨_,rfl⟩
 rw [← hq] at ho2 hcl ⊢
 have HC:=Lib.hid hC
 have HQ:=Lib.hid hq
 have HO2:=Lib.hid ho2
 have HB2:=Lib.hid (below_then HB1.out hb2)
 have HE2:=Lib.hid (below_old hb2 HE1.out (lt_of_block HE1.out))
 have hq256:q≤256:=by have:=HRL.out;omega
 clear hC hq ho2 hb2 hcl HX
 go_wp2_with fail
 refine (text_doc (HH.out.then_ HB2.out)).mono ?_
 rintro e w3 ⟨A3,c3,rfl,ho3,hb3⟩
 obtain ⟨cs,hcs⟩ : ∃ cs,cs=d.cs:=⟨_,rfl⟩
 rw [← hcs] at ho3 ⊢
 have HS:=Lib.hid hcs
 obtain ⟨z,hz⟩ : ∃ z,z=cs.length:=⟨_,rfl⟩
 rw [← hz] at ho3 ⊢
 have hz4:z≤4096:=by rw [hz,hcs];exact HCS.out
 have HZ:=Lib.hid hz
 have HO3:=Lib.hid ho3
 have HB3:=Lib.hid (below_then HB2.out hb3)
 have HE3:=Lib.hid (below_old hb3 HE2.out (lt_of_block HE2.out))
 have HC3:=Lib.hid (OwnR.then_ HO2.out hb3)
 have HCR3:=Lib.hid ho3.crs.2
 clear hcs hz ho3 hb3
 go_wp2_with fail
 by_cases hE1:(Pl.longL C z).2=0
 ·have hfit:Pl.FitR C cs:=Pl.fit_of_long (by rw [← HZ.out];exact hE1)
  refine (fill_any A2 q c2 C A3 z c3 cs w3 (OwnU.uns HC3.out) HCR3.out (by omega) (by omega) hfit).mono ?_
  rintro e w4 ⟨A4,c4,rfl,ho4,hb4⟩
  have hmay:∀ c ∈ cs,Pl.May c:=by rw [HS.out];exact HO.out.p.may
  obtain ⟨hrf,hrF,hre⟩:=Pl.fill_all hfit hmay
  obtain ⟨R,hR⟩ : ∃ R,R=Pl.fillL C cs:=⟨_,rfl⟩
  rw [← hR] at ho4 hrf hre
  have hrq:R.length=q:=by rw [hR,Pl.fill_len,HQ.out]
  rw [← HQ.out] at ho4 ⊢
  have HR:=Lib.hid hR
  have HFIT:=Lib.hid (And.intro hrf (And.intro hre hrq))
  have HO4:=Lib.hid ho4
  have HB4:=Lib.hid (below_then HB3.out hb4)
  have HE4:=Lib.hid (below_old hb4 HE3.out (lt_of_block HE3.out))
  have HLG:=Lib.hid (show Pl.longL R z=(((Pl.leave C cs).length:Int),0) by rw [HZ.out,Pl.long_of_fit hrf,hre])
  have HE1:=Lib.hid hE1
  clear hfit hmay hrf hrF hre hR hrq ho4 hb4 hE1 HO2 HO3 HC3 HCR3
  have h4:=HH.out.then_ HB4.out
  obtain ⟨d0,d1,d2,d3,d4⟩:=h4.cells
  obtain ⟨t,ht1,ht2⟩:=h4.tab
  have hpl:t.L.length=z:=by rw [← Tbl.Tp.len_text,ht2,HZ.out,HS.out]
  have hLN:=Tbl.len_tb ht1
  rw [hpl] at hLN
  have HLN:=Lib.hid hLN
  clear h4 ht1 ht2 hpl hLN
  go_wp2_with fail
  refine HLN.out.mono ?_
  rintro e w5 ⟨rfl,hb5⟩
  have HO5:=Lib.hid (OwnR.then_ HO4.out hb5)
  have HB5:=Lib.hid (below_then HB4.out hb5)
  have HE5:=Lib.hid (below_old hb5 HE4.out (lt_of_block HE4.out))
  clear hb5 HLN d0 d1 d2 d3 d4
  go_wp2_with fail
  have hlo:=long_any A4 q c4 R (z:Int) w5 (OwnU.uns HO5.out) (by omega) (by omega)
  rw [HLG.out] at hlo
  refine hlo.mono ?_
  rintro e w6 ⟨rfl,hb6⟩
  obtain ⟨v,hv⟩ : ∃ v,v=(Pl.leave C cs).length:=⟨_,rfl⟩
  rw [← hv]
  have HV:=Lib.hid hv
  have HO6:=Lib.hid (OwnR.then_ HO5.out hb6)
  have HB6:=Lib.hid (below_then HB5.out hb6)
  have HE6:=Lib.hid (below_old hb6 HE5.out (lt_of_block HE5.out))
  clear hb6 hlo hv HLG HO4 HO5 HE4 HE5
  by_cases hv4:4096<v
  ·have z1:decide ((v:Int) > 4096)=true:=decide_eq_true (by omega)
   have z2:decide ((4096:Int)<(v:Int))=true:=decide_eq_true (by omega)
   go_wp2_with fail
   have hbr:d.bars row=35:=by
    unfold Pl.Dc.bars
    rw [← HC.out,← HS.out,← HZ.out,if_neg (by rw [HE1.out];decide),if_pos (.inl (by rw [← HV.out];exact hv4))]
   rw [HR0.out,hbr,if_neg (by decide)]
   exact CommitR.bad HH.out HB6.out
  ·have z1:decide ((v:Int) > 4096)=false:=decide_eq_false (by omega)
   have z2:decide ((4096:Int)<(v:Int))=false:=decide_eq_false (by omega)
   have h6:=HH.out.then_ HB6.out
   obtain ⟨d0,d1,d2,d3,d4⟩:=h6.cells
   obtain ⟨M,hM⟩ : ∃ M,M=d.P.length:=⟨_,rfl⟩
   have hln:=len_past h6.past
   rw [← hM] at hln
   have HLN:=Lib.hid hln
   have HM:=Lib.hid hM
   clear h6 hM hln
   go_wp2_with fail
   refine HLN.out.mono ?_
   rintro e w7 ⟨rfl,hw⟩
   rw [hw];clear hw w7 HLN
   by_cases hM256:256≤M
   ·have z3:decide ((M:Int)≥256)=true:=decide_eq_true (by omega)
    have z4:decide ((256:Int)≤(M:Int))=true:=decide_eq_true (by omega)
    go_wp2_with fail
    have hbr:d.bars row=35:=by
     unfold Pl.Dc.bars
     rw [← HC.out,← HS.out,← HZ.out,if_neg (by rw [HE1.out];decide),if_pos (.inr (by rw [← HM.out];exact hM256))]
    rw [HR0.out,hbr,if_neg (by decide)]
    exact CommitR.bad HH.out HB6.out
   ·have z3:decide ((M:Int)≥256)=false:=decide_eq_false (by omega)
    have z4:decide ((256:Int)≤(M:Int))=false:=decide_eq_false (by omega)
    have x4:=HE6.out
    obtain ⟨j0,j1⟩:=And.intro (cell0 (r:=[.int .u64 y]) x4) (cell1 (r:=[]) x4)
    clear x4
    go_wp2_with fail
    have h6:=(HH.out.then_ HB6.out).drew
    have hub:=OwnU.uns (OwnR.then_ HO6.out (below_drawn (Below.refl w6.heap.size w6)))
    have hkw:k w.heap.size=0:=by
     rcases Nat.eq_zero_or_pos (k w.heap.size) with h | h
     ·exact h
     ·have:=HH.out.lt w.heap.size (by omega)
      omega
    have hnz:(d.n + Pl.total d.P)=(z:Int):=by rw [HZ.out,HS.out];exact HO.out.p.len.symm
    have hlz:Pl.longL R (d.n + Pl.total d.P)=((v:Int),0):=by rw [hnz,HZ.out,Pl.long_of_fit HFIT.out.1,HFIT.out.2.1,HV.out]
    have hlDp:=lt_of_block h6.blk
    have hlE:=lt_of_block HE6.out
    have HKP:=Lib.hid (fun (wP:World) (h:Tn (fun b=>b=pa) w6.drew wP)=>And.intro ((h.cell (p:=⟨D,1,none⟩) hlDp (fun e=>by have:=HH.out.kD;have:=HH.out.kp;simp only at e;rw [e] at *;omega)).trans d1) (And.intro ((h.cell (p:=⟨w.heap.size,0,none⟩) hlE (fun e=>by have:=HH.out.kp;simp only at e;rw [← e,hkw] at this;cases this)).trans j0) ((h.cell (p:=⟨w.heap.size,1,none⟩) hlE (fun e=>by have:=HH.out.kp;simp only at e;rw [← e,hkw] at this;cases this)).trans j1)))
    have HKW:=Lib.hid hkw
    by_cases hrv:1099511627776≤d.fr + M
    ·have hP:=push_full h6.past x y A4 q c4 R false hub (by omega) (by omega) (v:Int) hlz (.inl (by have:=HO.out.p.rev;unfold Pl.Dc.now at this;have:=HM.out;omega))
     have HP:=Lib.hid hP
     clear h6 hub hkw hnz hlz hlDp hlE hP d0 d2 d3 d4
     go_region_held3 (fun w'=>w'.cell? ⟨D,1,none⟩=some (.pointer (some ⟨pa,0,none⟩))∧w'.cell? ⟨w.heap.size,0,none⟩=some (.int .u32 x)∧w'.cell? ⟨w.heap.size,1,none⟩=some (.int .u64 y))
      (first | go_keep | (go_split_ands;exact HKP.out _ (Tn.of _ hbP)))
      (first | (go_at_call 155;refine HP.out.mono ?_;rintro e wP ⟨rfl,hbP⟩))
     have HBP:=Lib.hid (below_then HB6.out (below_drew hbP))
     clear hbP
     go_wp2_with fail
     have hbr:d.bars row=7:=by
      unfold Pl.Dc.bars
      rw [← HC.out,← HS.out,← HZ.out,if_neg (by rw [HE1.out];decide),if_neg (by rw [← HV.out,← HM.out];omega),if_pos (by unfold Pl.Dc.now;rw [← HM.out];exact hrv)]
     rw [HR0.out,hbr,if_neg (by decide)]
     exact CommitR.bad HH.out HBP.out
    ·have hP:=push_ok (h6.past.more (G:=fun b=>k b=2∨w6.drew.heap.size≤b) (fun b hb=>.inl hb) (fun h=>by
       rcases h with h | h
       ·have:=HH.out.kp;omega
       ·have:=h6.lt pa (by rw [HH.out.kp];decide);omega)) (fun b hb=>.inr hb) x y A4 q c4 R false hub (by omega) (by omega) (v:Int) hlz (by have:=HM.out;omega) (by have:=HM.out;omega)
     have HP:=Lib.hid hP
     have H6:=Lib.hid h6
     clear h6 hub hkw hnz hlz hlDp hlE hP d0 d2 d3 d4
     go_region_held3 (fun w'=>w'.cell? ⟨D,1,none⟩=some (.pointer (some ⟨pa,0,none⟩))∧w'.cell? ⟨w.heap.size,0,none⟩=some (.int .u32 x)∧w'.cell? ⟨w.heap.size,1,none⟩=some (.int .u64 y))
      (first | go_keep | (go_split_ands;exact HKP.out _ htP))
      (first | (go_at_call 155;refine HP.out.mono ?_;rintro e wP ⟨rfl,hpP,htP⟩))
     obtain ⟨k5,hd5,hm5⟩:=H6.out.setP (fr':=d.fr) (n':=d.n) hpP htP
     have HD5:=Lib.hid hd5
     have HM5:=Lib.hid (((Mv.of k HB6.out).trans (Mv.of k (below_drawn (Below.refl _ _)))).trans hm5)
     have hu5:Uns wP wP.heap.size A4 q c4 R:=OwnU.uns (OwnR.tn (OwnR.then_ HO6.out (below_drawn (Below.refl w6.heap.size w6))) htP fun g hg e=>by
      have h1:=(OwnR.lt HO6.out g hg).1
      have h2:=HH.out.lt pa (by rw [HH.out.kp];decide)
      have h3:=HB3.out.size
      omega)
     have hap5:Apart (fun b=>k5 b≠0) A4 q:=fun h0 ad e hk=>by
      obtain ⟨g,e2,hg1,hg2⟩:=OwnR.pos_ HO6.out h0
      rw [e] at e2
      obtain rfl:=Option.some.inj e2
      have h1:k5 g=k g:=hm5.eq g hg2
      have h2:k g≠0:=by rw [← h1];exact hk
      have h3:=HH.out.lt g h2
      have h4:=HB3.out.size
      omega
     have HU5:=Lib.hid (And.intro hu5 hap5)
     clear hd5 hm5 hu5 hap5 hpP htP
     go_wp2_with fail
     obtain ⟨d1,hd1⟩ : ∃ d1:Pl.Dc,d1={ d with P:=d.P ++ [(⟨x,y,R,false⟩ : Pl.Op)] }:=⟨_,rfl⟩
     have hd5:DocM wP D pa tx ls mk k5 z d1 m:=by rw [hd1,HZ.out,HS.out];exact HD5.out
     have hdc:d1.cs=cs:=by rw [hd1];exact HS.out.symm
     have HD1:=Lib.hid hd1
     have HD51:=Lib.hid hd5
     have HDC:=Lib.hid hdc
     clear HD5 hd1 hd5 hdc
     go_loopw [61] (fun i wr=>CmI wP D pa tx ls mk k5 z d1 m A4 q c4 R i wr) (fun i _=>q - (intOf i).toNat)
     case atStart=>exact ⟨0,k5,rfl,Nat.zero_le _,HD51.out,Mv.refl _ _,HU5.out.1⟩
     case round =>
      obtain ⟨j,kj,rfl,hj,hdj,hmj,huj⟩:=hrel
      have HDJ:=Lib.hid hdj
      have HMJ:=Lib.hid hmj
      have HUJ:=Lib.hid huj
      clear hdj hmj huj
      by_cases hlt:j<q
      ·have hjR:j<R.length:=by rw [HFIT.out.2.2];exact hlt
       have z5:(0:Int)≤(j:Int):=Int.natCast_nonneg _
       have z6:(j:Int)<(q:Int):=Int.ofNat_lt.2 hlt
       have HMS:=Lib.hid (show q - (j + 1)<q - j by omega)
       obtain ⟨g1,o1,rfl,hg1,hc1⟩:=Uns.at_ HUJ.out hlt
       obtain ⟨a0,a1,a2,a3,a4⟩:=hc1 j hlt
       obtain ⟨u,hu⟩ : ∃ u,u=R.getD j default:=⟨_,rfl⟩
       have hu1:R[j]?=some u:=by rw [hu,List.getD_eq_getElem?_getD,List.getElem?_eq_getElem hjR];rfl
       rw [← hu] at a0 a1 a2 a3 a4
       have hf:Pl.Fit u (Pl.leave (R.take j) d1.cs).length:=by rw [HDC.out];exact Pl.fit_take R cs HFIT.out.1 j u hu1
       have hle:(Pl.leave (R.take j) d1.cs).length≤5000:=by
        have:=fitR_len HFIT.out.1 j
        rw [← HDC.out] at this
        have h2:d1.cs.length≤4096:=by rw [HDC.out,HS.out];exact HCS.out
        omega
       have hnx:Pl.leave (R.take (j + 1)) d1.cs=Pl.behind u (Pl.leave (R.take j) d1.cs):=by
        rw [List.take_add_one,hu1,Pl.leave_append]
        rfl
       have HNX:=Lib.hid hnx
       have hC:=fun w0 (hb:Below wr.heap.size wr w0)=>do_any (HDJ.out.then_ hb) u hf (j_okay hf.1) (by omega) (by show (Pl.leave (R.take j) d1.cs).length≤1000000;omega)
       have HDO:=Lib.hid hC
       obtain ⟨uk,up,uc,ux,uy⟩:=u
       simp only at a0 a1 a2 a3 a4
       clear hu hu1 hf hle hnx hC hc1 hg1 hjR
       go_wp2_with fail
       refine (HDO.out _ (below_box wr _)).mono ?_
       rintro e w8 ⟨k8,rfl,hd8,hm8⟩
       have HD8:=Lib.hid hd8
       have HM8:=Lib.hid (HMJ.out.trans ((Mv.of kj (below_box wr _)).trans hm8))
       have hu8:Uns w8 w8.heap.size (some ⟨g1,o1,none⟩) q c4 R:=by
        refine Rws.tn (Rws.then_ HUJ.out (below_box wr _)) hm8.tn fun h0 ad e hk=>?_
        have hP:=HU5.out.2 h0 ad e
        have h1:ad.block<wP.heap.size:=Rws.in_ HU5.out.1 h0 ad e
        rw [HMJ.out.eq ad.block h1] at hk
        exact hP hk
       have HU8:=Lib.hid hu8
       clear hd8 hm8 hu8 a0 a1 a2 a3 a4
       go_wp2_with fail
       go_roundw
       case rel =>
        refine ⟨j + 1,k8,by go_num,hlt,?_,HM8.out,HU8.out⟩
        rw [HNX.out]
        exact HD8.out
       case measure=>simp [intOf];(have:=HMS.out;omega)
      ·have hjq:j=q:=by omega
       subst hjq
       have hE:Pl.leave (R.take j) d1.cs=Pl.leave C cs:=by rw [HDC.out,← HFIT.out.2.1,List.take_of_length_le (by rw [HFIT.out.2.2];exact Nat.le_refl _)]
       have hdj:=HDJ.out
       rw [hE] at hdj
       obtain ⟨d0,d1',d2,d3,d4⟩:=hdj.cells
       obtain ⟨mb,hk1,hk2⟩:=hdj.mks
       have hGo:=goM_ok hk1 HUJ.out (by omega) (by omega) (N1:=(v:Int)) (by rw [HZ.out,Pl.long_of_fit HFIT.out.1,HFIT.out.2.1,HV.out]) (by omega)
       have HGO:=Lib.hid hGo
       have HDQ:=Lib.hid hdj
       clear hE hdj hk1 hk2 hGo d0 d1' d2 d3
       go_wp2_with fail
       refine HGO.out.mono ?_
       rintro e w9 ⟨b9,rfl,hb9,hm9,ht9⟩
       obtain ⟨k9,hd9,hv9⟩:=HDQ.out.setG hb9 hm9 ht9
       have HD9:=Lib.hid hd9
       have HV9:=Lib.hid ((HM5.out.trans HMJ.out).trans hv9)
       clear hd9 hv9 hm9 ht9 HGO
       go_wp2_with fail
       have hbr:d.bars row=0:=by
        unfold Pl.Dc.bars
        rw [← HC.out,← HS.out,← HZ.out,if_neg (by rw [HE1.out];decide),if_neg (by rw [← HV.out,← HM.out];omega),if_neg (by unfold Pl.Dc.now;rw [← HM.out];exact hrv)]
       have hbh:d.behind x y row={ d1 with cs:=Pl.leave C cs,M:=Pl.goM (fun p=>Pl.placeR p R) d1.M }:=by
        unfold Pl.Dc.behind Pl.Dc.newOp Pl.Dc.ripe
        rw [HD1.out,← HC.out,← HS.out,← HR.out]
       rw [HR0.out,hbr,if_pos rfl,hbh]
       exact ⟨k9,m + j,rfl,by rw [← HV.out];exact HD9.out,by omega,HV9.out⟩
 ·obtain ⟨E,hE⟩ : ∃ E,E=(Pl.longL C z).2:=⟨_,rfl⟩
  refine (fill_bad A2 q c2 C A3 z c3 w3 (OwnU.uns HC3.out) (by omega) (by omega) E (Pl.longL C z).1 (by rw [hE]) (by rw [hE];exact hE1)).mono ?_
  rintro e w4 ⟨rfl,hb4⟩
  have HB4:=Lib.hid (below_then HB3.out hb4)
  have hne:E≠0:=by rw [hE];exact hE1
  have z1:(E != 0)=true:=by simpa using hne
  have z2:decide (E≠0)=true:=decide_eq_true hne
  have HEE:=Lib.hid hE
  clear hb4 hE hE1
  go_wp2_with fail
  have hbr:d.bars row=E:=by
   unfold Pl.Dc.bars
   rw [← HC.out,← HS.out,← HZ.out,← HEE.out,if_pos hne]
  rw [HR0.out,hbr,if_neg hne]
  exact CommitR.bad HH.out HB4.out
end
open Go.RowKit
open Pl (Un)
def IxG (Q:Un→Prop) (w:World) (l:List Un) (i:Value) (wr:World):Prop:=∃ j:Nat,i=.int .i64 (j:Int)∧j≤l.length∧(∀ u ∈ l.take j,Q u)∧Below w.heap.size w wr
set_option maxHeartbeats 400000 in
theorem indexG_any (A:Option Addr) (n c:Nat) (l:List Un) (w:World) (h1:Uns w w.heap.size A n c l) (g:FuncId) (caps:Array Value) (Q:Un→Prop) [DecidablePred Q] (hfun:∀ args w,(callFunc g args).run Tryz.prog w=.ok (.enter g args) w)
  (hg:∀ u w1,u ∈ l→Below w.heap.size w w1→Calls Tryz.prog g (#[uval u] ++ caps) w1 fun e w'=>e=.returned (.bool (!decide (Q u)))∧Below w1.heap.size w1 w') :
  Calls Tryz.prog 147 #[.slice A n c,.func (.func g) #[] caps] w fun e w'=>∃ r:Int,e=.returned (.int .i64 r)∧(0≤r↔¬ ∀ u ∈ l,Q u)∧Below w.heap.size w w':=by
 have hcap1:=h1.cap
 have hle1:=h1.le
 unfold maxLen at hcap1
 have HL:=Lib.hid h1.len
 have H1:=Lib.hid h1
 have HG:=Lib.hid hg
 clear h1 hg
 go_enter Tryz.func147,Tryz.ntmps147
 go_wp2_with fail
 go_loopw [8] (fun i wr=>IxG Q w l i wr) (fun i _=>n - (intOf i).toNat)
 case atStart=>exact ⟨0,rfl,Nat.zero_le _,(fun u hu=>by simp at hu),Below.refl _ _⟩
 case round =>
  obtain ⟨j,rfl,hj,hs,hb⟩:=hrel
  have HB:=Lib.hid hb
  have HS:=Lib.hid hs
  rw [HL.out] at hj
  clear hb hs
  by_cases hlt:j<n
  ·obtain ⟨g1,o1,rfl,hg1,hc1⟩:=Uns.at_ (Rws.below H1.out HB.out (Nat.le_refl _)) hlt
   obtain ⟨a0,a1,a2,a3,a4⟩:=hc1 j hlt
   have hjl:j<l.length:=by rw [HL.out];exact hlt
   obtain ⟨u,hu⟩ : ∃ u,u=l.getD j default:=⟨_,rfl⟩
   rw [← hu] at a0 a1 a2 a3 a4
   have HM:=Lib.hid (HG.out u wr (by rw [hu];exact mem_getD hjl) HB.out)
   have HY:=Lib.hid (show Q u→∀ v ∈ l.take (j + 1),Q v from fun h=>mem_take_getD HS.out hjl (by rw [← hu];exact h))
   have HN:=Lib.hid (show ¬ Q u→¬ ∀ v ∈ l,Q v from fun h h2=>h (h2 u (by rw [hu];exact mem_getD hjl)))
   obtain ⟨k,p,ch,x,y⟩:=u
   simp only at a0 a1 a2 a3 a4
   have z0:(0:Int)≤(j:Int):=by omega
   have z1:(j:Int)<(n:Int):=by omega
   clear hc1 hu
   unfold uval at HM
   simp only at HM
   by_cases hO:Q ⟨k,p,ch,x,y⟩
   ·rw [decide_eq_true hO] at HM
    have HY2:=Lib.hid (HY.out hO)
    clear hO
    go_wp2_with fail
    refine HM.out.mono ?_
    rintro e w' ⟨rfl,hb⟩
    have HB2:=Lib.hid (below_then' HB.out hb HB.out.size)
    clear hb a0 a1 a2 a3 a4
    go_wp2_with fail
    go_roundw
    case rel=>exact ⟨j + 1,by go_num,by rw [HL.out];omega,HY2.out,HB2.out⟩
    case measure=>simp [intOf];omega
   ·rw [decide_eq_false hO] at HM
    have HN2:=Lib.hid (HN.out hO)
    clear hO
    go_wp2_with fail
    refine HM.out.mono ?_
    rintro e w' ⟨rfl,hb⟩
    have HB2:=Lib.hid (below_then' HB.out hb HB.out.size)
    clear hb a0 a1 a2 a3 a4
    go_wp2_with fail
    go_ret
    exact ⟨_,rfl,⟨fun _=>HN2.out,fun _=>by omega⟩,HB2.out⟩
  ·have hjn:j=n:=by omega
   have HE:=Lib.hid (show ∀ u ∈ l,Q u from by
    have:=HS.out
    rw [List.take_of_length_le (by rw [HL.out];omega)] at this
    exact this)
   clear hjn
   go_wp2_with fail
   go_ret
   exact ⟨_,rfl,⟨fun h=>by omega,fun h=>absurd HE.out h⟩,HB.out⟩
set_option maxHeartbeats 400000 in
theorem containsG_any (A:Option Addr) (n c:Nat) (l:List Un) (w:World) (h1:Uns w w.heap.size A n c l) (g:FuncId) (caps:Array Value) (Q:Un→Prop) [DecidablePred Q] (hfun:∀ args w,(callFunc g args).run Tryz.prog w=.ok (.enter g args) w)
  (hg:∀ u w1,u ∈ l→Below w.heap.size w w1→Calls Tryz.prog g (#[uval u] ++ caps) w1 fun e w'=>e=.returned (.bool (!decide (Q u)))∧Below w1.heap.size w1 w') :
  Calls Tryz.prog 71 #[.slice A n c,.func (.func g) #[] caps] w fun e w'=>e=.returned (.bool (decide (¬ ∀ u ∈ l,Q u)))∧Below w.heap.size w w':=by
 have H1:=Lib.hid (indexG_any A n c l w h1 g caps Q hfun hg)
 clear h1 hg
 go_enter Tryz.func71,Tryz.ntmps71
 go_wp2_with fail
 refine H1.out.mono ?_
 rintro e w' ⟨r,rfl,hr,hb⟩
 have HR:=Lib.hid hr
 have HB:=Lib.hid hb
 clear hr hb
 go_wp2_with fail
 go_ret
 refine ⟨ret_bool ?_,HB.out⟩
 rw [Bool.eq_iff_iff]
 simp only [decide_eq_true_iff]
 exact HR.out
def Pl.Mine (x y:Int) (u:Un):Prop:=Pl.Okay u∧u.x=x∧u.y=y
instance (x y:Int):DecidablePred (Pl.Mine x y):=fun u=>by unfold Pl.Mine;infer_instance
theorem neq_id (x y x' y':Int) (w:World):(binOp .neq 43 (.agg #[.int .u32 x,.int .u64 y]) (.agg #[.int .u32 x',.int .u64 y'])).run Tryz.prog w=.ok (.bool (!decide (x=x'∧y=y'))) w:=by
 rw [run_neq_struct,show (10000:Nat)=9998 + 2 from rfl,equalIn_id];rfl
set_option maxHeartbeats 1000000 in
theorem mayE_any (u:Un) (x y:Int) (b:Nat) (w:World) (hb:w.heap[b]?=some (.cells #[.int .u32 x,.int .u64 y] 43 (0,0))) :
  Calls Tryz.prog 69 #[uval u,.pointer (some ⟨b,0,none⟩)] w fun e w'=>e=.returned (.bool (!decide (Pl.Mine x y u)))∧Below w.heap.size w w':=by
 have HM:=fun w=>Lib.hid (okay_any u w)
 obtain ⟨k,p,c,x',y'⟩:=u
 have hU:=uat_new w k p c x' y'
 have hB:=below_box w (.cells #[.int .i64 k,.int .i64 p,.int .i32 c,.int .u32 x',.int .u64 y'] 47)
 have hb2:=below_old hB hb (lt_of_block hb)
 obtain ⟨j0,j1⟩:=And.intro (cell0 (r:=[.int .u64 y]) hb2) (cell1 (r:=[]) hb2)
 obtain ⟨u0,u1,u2,u3,u4⟩:=hU.cells
 have q1:=fun w=>neq_id x' y' x y w
 have q2:=fun op a b xs ys w=>guard_id op a b xs ys w
 obtain ⟨s,hs⟩ : ∃ s,s=decide (x'=x∧y'=y):=⟨_,rfl⟩
 rw [← hs] at q1
 have HS:=Lib.hid hs
 obtain ⟨r,hr⟩ : ∃ r,r=decide (Pl.Okay ⟨k,p,c,x',y'⟩):=⟨_,rfl⟩
 rw [← hr] at HM
 have HR:=Lib.hid hr
 have HB:=Lib.hid hB
 clear hs hr hB hU hb2
 unfold uval at *
 simp only at *
 cases s with
 | true =>
  go_enter Tryz.func69,Tryz.ntmps69
  go_wp2_with fail
  refine (HM _).out.mono ?_
  rintro e w2 ⟨rfl,hb2⟩
  have HB2:=Lib.hid (below_then HB.out hb2)
  clear hb2
  go_wp2_with fail
  go_ret
  refine ⟨ret_bool ?_,HB2.out⟩
  have h1:=of_decide_eq_true HS.out.symm
  rw [HR.out,Bool.eq_iff_iff]
  unfold Pl.Mine
  simp [h1.1,h1.2]
 | false =>
  go_enter Tryz.func69,Tryz.ntmps69
  go_wp2_with fail
  go_ret
  refine ⟨ret_bool ?_,HB.out⟩
  have h1:=of_decide_eq_false HS.out.symm
  rw [decide_eq_false (p:=Pl.Mine x y ⟨k,p,c,x',y'⟩) (fun h=>h1 h.2)]
  rfl
end Go.Proofs.YtlgdcelgkiipaaaGreat
