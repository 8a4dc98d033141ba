/-
  Undo's own part. Conditions: those that it states.
-/
import Derived.Test.YtlgdcelgkiipaaaGreatOc38
set_option maxRecDepth 100000
set_option linter.unusedVariables false
namespace Go.Proofs.YtlgdcelgkiipaaaGreat
open Go.RowKit
open Pl (Un)
namespace Pl
namespace Dc
def undoF (x y:Int) (rev:Nat) (t:Int) (d:Dc):Dc × An :=
 if d.undoE x y rev≠0 then (d,fails (d.undoE x y rev)) else (((d.behind x y (d.undoRow x y rev)).mark (rev - d.fr - 1)).renewed x t,⟨0,0,false,[],[d.newOp x y (d.undoRow x y rev)],[]⟩)
end Dc
end Pl
section
variable {w w':World} {D pa tx ls mk m al:Nat} {k:Nat→Nat} {N:Int} {d:Pl.Dc}
set_option maxHeartbeats 4000000 in
theorem undo1_any (h:DocM w D pa tx ls mk k d.cs.length d m) (hok:d.Ok) {x y:Int} (hx:0≤x∧x<4294967296) (rev:Nat) (hrev:rev≤18446744073709551615) (now:Int) (h0:0≤now) (hnow:now≤1099511627776) (hlv:Pl.liveM d.L x now=true) (hA:AnAt w al 0 0 false none 0 0 none 0 0 none 0 0) (hka:k al=0) (hm:m + 256≤1073741824) (b1 b2 b3 b4:Nat)
  (e1:w.heap[b1]?=some (.cells #[.int .u64 (rev:Int)] 27 (0,0))) (e2:w.heap[b2]?=some (.cells #[.pointer (some ⟨D,0,none⟩)] 23 (0,0))) (e3:w.heap[b3]?=some (.cells #[.int .u32 x,.int .u64 y] 43 (0,0)))
  (e4:w.heap[b4]?=some (.cells #[.int .u64 now] 27 (0,0)))
  (hk:(k b1=0∧k b2=0∧k b3=0∧k b4=0)∧¬ (b1=al∨b2=al∨b3=al∨b4=al)) :
  Calls Tryz.prog 105 #[.pointer (some ⟨al,0,none⟩),.pointer (some ⟨b1,0,none⟩),.pointer (some ⟨b2,0,none⟩),.pointer (some ⟨b3,0,none⟩),.pointer (some ⟨b4,0,none⟩)] w (OwnD w D pa tx ls mk al k m (d.undoF x y rev now)):=by
 obtain ⟨R0,hR0⟩ : ∃ R0,R0=OwnD w D pa tx ls mk al k m (d.undoF x y rev now):=⟨_,rfl⟩
 rw [← hR0]
 have HR0:=Lib.hid hR0
 have HH:=Lib.hid h
 have HO:=Lib.hid hok
 have HA:=Lib.hid hA
 have HX:=Lib.hid (And.intro e1 (And.intro e2 (And.intro e3 e4)))
 have HK:=Lib.hid hk
 have HKA:=Lib.hid hka
 have HL:=Lib.hid hlv
 have HXX:=Lib.hid hx
 have HBAD:=Lib.hid (fun (E:Int) (wE:World) (hE:E≠0) (he:d.undoE x y rev=E) (hb:Below w.heap.size w wE)=>show R0 (.returned (.int .i64 E)) wE from by
  rw [hR0]
  have:d.undoF x y rev now=(d,Pl.fails E):=by unfold Pl.Dc.undoF;rw [he,if_pos hE]
  rw [this]
  exact OwnD.bad h al hE hb)
 have HXW:=Lib.hid (fun (W:World) (hb:Below w.heap.size w W)=>And.intro (cell0 (r:=[]) (below_old hb e1 (lt_of_block e1))) (And.intro (cell0 (r:=[]) (below_old hb e2 (lt_of_block e2))) (And.intro (And.intro (cell0 (r:=[.int .u64 y]) (below_old hb e3 (lt_of_block e3))) (cell1 (r:=[]) (below_old hb e3 (lt_of_block e3)))) (And.intro (cell0 (r:=[]) (below_old hb e4 (lt_of_block e4))) (h.then_ hb).cells))))
 obtain ⟨x1,x2,⟨x3,x3'⟩,x4,d0,d1,d2,d3,d4⟩:=HXW.out w (Below.refl _ _)
 clear h hok hR0 hA e1 e2 e3 e4 hk hka hlv hx
 by_cases hz:rev=0
 ·have z5:((rev:Int) == 0)=true:=by rw [hz];rfl
  have z6:decide ((rev:Int)=0)=true:=decide_eq_true (by omega)
  have z7:decide (rev=0)=true:=decide_eq_true hz
  go_enter Tryz.func105,Tryz.ntmps105
  go_wp2_with fail
  exact HBAD.out 6 w (by decide) (by unfold Pl.Dc.undoE;rw [if_pos hz]) (Below.refl _ _)
 ·have z5:((rev:Int) == 0)=false:=by simp;omega
  have z6:decide ((rev:Int)=0)=false:=decide_eq_false (by omega)
  have z7:decide (rev=0)=false:=decide_eq_false hz
  obtain ⟨E,hE⟩ : ∃ E,E=(Pl.place d.fr d.P.length 1 rev).2:=⟨_,rfl⟩
  -- what At tells: the operation,or an error and nothing
  obtain ⟨op,hop⟩ : ∃ op:Pl.Op,op=if E=0 then d.opAt rev else ⟨0,0,[],false⟩:=⟨_,rfl⟩
  obtain ⟨ox,oy,ol,ob⟩:=op
  have hAT:=fun (W:World) (hb:Below w.heap.size w W)=>show Calls Tryz.prog 106 #[.pointer (some ⟨pa,0,none⟩),.int .u64 (rev:Int)] W fun e w'=>∃ A c,e=.returned (.tuple #[.agg #[.int .u32 ox,.int .u64 oy,.slice A ol.length c,.bool ob],.int .i64 E])∧OwnU w' W.heap.size (.slice A ol.length c) ol∧Below W.heap.size W w' from by
   by_cases hE0:E=0
   ·have hp:=Pl.place_zero.1 (show (Pl.place d.fr d.P.length 1 rev).2=0 by rw [← hE];exact hE0)
    rw [if_pos hE0] at hop
    have:=at_ok (HH.out.then_ hb).past (rev - d.fr) rev (by omega) (by omega) (by omega) ox oy ol ob hop
    rw [hE0];exact this
   ·rw [if_neg hE0] at hop
    injection hop with o1 o2 o3 o4
    subst o1 o2 o3 o4
    have hp1:(Pl.place d.fr d.P.length 1 rev).1=0:=by
     rw [hE] at hE0
     unfold Pl.place at hE0 ⊢
     split
     ·rfl
     ·split
      ·rfl
      ·rename_i h1 h2;rw [if_neg h1,if_neg h2] at hE0;exact absurd rfl hE0
    refine (at_bad (HH.out.then_ hb).past rev hrev E (by rw [← hp1,hE]) hE0).mono fun e w3 h=>⟨none,0,h.1,OwnR.nil_ _ _ _ _ _,h.2⟩
  have HAT:=Lib.hid hAT
  have HE:=Lib.hid hE
  have HOP:=Lib.hid hop
  have hgD:∀ (W:World),Below w.heap.size w W→W.heap.size≠b2∧W.heap.size≠D∧W.heap.size≠b1:=fun W hb=>by
   have h1:=lt_of_block HX.out.1
   have h2:=lt_of_block HX.out.2.1
   have h3:=lt_of_block HH.out.blk
   have h4:=hb.size
   omega
  have HKE:=Lib.hid (fun (W:World) (hb:Below w.heap.size w W)=>And.intro (HXW.out W hb).2.1 (And.intro (HXW.out W hb).2.2.2.2.2.1 (HXW.out W hb).1))
  clear hE hop hAT d0 d2 d3 d4 x3 x3' x4 hgD
  go_enter Tryz.func105,Tryz.ntmps105
  go_upto_region 3 with fail
  go_cut [7,8] (fun P Q wx=>∃ (g:Nat) (A:Option Addr) (c:Nat),P=.pointer (some ⟨g,0,none⟩)∧Q=.int .i64 E∧w.heap.size≤g∧OAt wx g ox oy A ol.length c ob∧(∃ B,OwnU wx B (.slice A ol.length c) ol)∧Below w.heap.size w wx)
  case first =>
   go_wp2_with fail
   go_region_held3 (fun w'=>w'.cell? ⟨b2,0,none⟩=some (.pointer (some ⟨D,0,none⟩))∧w'.cell? ⟨D,1,none⟩=some (.pointer (some ⟨pa,0,none⟩))∧w'.cell? ⟨b1,0,none⟩=some (.int .u64 (rev:Int)))
    (first | (go_split_ands;exact HKE.out _ (below_drew hbS)) | (go_split_ands;exact HKE.out _ (below_then (below_drew hbS) (below_box _ _))) | (go_split_ands;exact HKE.out _ (below_on (below_drew hbS2))) | (go_split_ands;exact HKE.out _ ((tn_four _ w.heap.size _ _ _ _).below (below_on (below_drew hbS2)) (below_on (below_drew hbS2)).size (fun b e=>by rw [e];exact Nat.le_refl _))) | (go_split_ands;exact HKE.out _ (below_box _ _)) | go_keep)
    (first | (go_at_call 106;refine (HAT.out w.drew (below_drawn (Below.refl _ _))).mono ?_;rintro e wS ⟨A5,c5,rfl,hoS,hbS⟩) | (go_at_call 106;refine (HAT.out (w.alloc (.cells #[.int .u32 0,.int .u64 0,.slice none 0 0,.bool false] 45)).drew (below_drawn (below_box _ _))).mono ?_;rintro e wS ⟨A5,c5,rfl,hoS,hbS2⟩;obtain ⟨f0,f1,f2,f3⟩:=((op_new w).then_ (below_drew hbS2)).cells;have f4:=((op_new w).then_ (below_drew hbS2)).frozen))
   ·go_wp2_with fail
    go_meet
    have hs0:=(below_drew hbS:Below w.heap.size w wS).size
    have hb9:=below_then (below_drew hbS:Below w.heap.size w wS) (below_box wS (.cells #[.int .u32 ox,.int .u64 oy,.slice A5 ol.length c5,.bool ob] 45))
    exact ⟨wS.heap.size,A5,c5,rfl,rfl,hs0,heap_alloc_new wS _,⟨_,OwnR.then_ hoS (below_box wS _)⟩,hb9⟩
   ·go_wp2_with fail
    go_meet
    have hb8:Below w.heap.size w wS:=below_on (below_drew hbS2)
    have t4:=tn_four wS w.heap.size (.int .u32 ox) (.int .u64 oy) (.slice A5 ol.length c5) (.bool ob)
    exact ⟨w.heap.size,A5,c5,rfl,rfl,Nat.le_refl _,((op_new w).then_ (below_drew hbS2)).sets ox oy A5 ol.length c5 ob,⟨_,OwnR.tn hoS t4 fun g hg e=>by
     have h1:=(OwnR.lt hoS g hg).1
     have h2:(w.alloc (.cells #[.int .u32 0,.int .u64 0,.slice none 0 0,.bool false] 45)).drew.heap.size=w.heap.size + 1:=by simp
     omega⟩,t4.below hb8 hb8.size (fun b e=>by rw [e];exact Nat.le_refl _)⟩
  case rest =>
   obtain ⟨g,A6,c6,rfl,rfl,hg,hoa,⟨B6,hou⟩,hbx⟩:=hcut
   have HG:=Lib.hid hg
   have HOA:=Lib.hid hoa
   have HOU:=Lib.hid hou
   have HBX:=Lib.hid hbx
   obtain ⟨f0,f1,f2,f3⟩:=hoa.cells
   obtain ⟨x1,x2,⟨x3,x3'⟩,x4,d0,d1,d2,d3,d4⟩:=HXW.out wc hbx
   clear hg hoa hou hbx d0 d2 d3 d4 x4
   by_cases hE0:E=0
   ·subst hE0
    have z1:((0:Int) != 0)=false:=rfl
    by_cases hxx:ox=x
    ·by_cases hob:ob=true
     ·subst hob
      have z2:(ox != x)=false:=by simpa using hxx
      have z3:decide (ox≠x)=false:=by simpa using hxx
      go_wp2_with fail
      have hop:=HOP.out
      rw [if_pos trivial] at hop
      exact HBAD.out 34 wc (by decide) (by unfold Pl.Dc.undoE;rw [if_neg hz,← HE.out,if_neg (by decide),if_neg (by rw [← hop];simpa using hxx),if_pos (by rw [← hop])]) HBX.out
     ·obtain rfl:ob=false:=by simpa using hob
      have z2:(ox != x)=false:=by simpa using hxx
      have z3:decide (ox≠x)=false:=by simpa using hxx
      have hop:=HOP.out
      rw [if_pos rfl] at hop
      have hp12:=Pl.place_zero.1 HE.out.symm
      have HP12:=Lib.hid hp12
      have hopm:d.opAt rev ∈ d.P:=Pl.Dc.op_mem (by omega) (by unfold Pl.Dc.now;omega)
      have hol:=(HO.out.p.row _ hopm).1
      rw [← hop] at hol
      simp only at hol
      have HOPP:=Lib.hid hop
      have HOLL:=Lib.hid hol
      have hS:=since_ok (HH.out.then_ HBX.out).drew.past (rev - d.fr) rev (by omega) (by omega)
      obtain ⟨P0,hP0⟩ : ∃ P0,P0=d.P.drop (rev - d.fr):=⟨_,rfl⟩
      rw [← hP0] at hS
      have HS:=Lib.hid hS
      have HP0:=Lib.hid hP0
      clear hS hP0 hop hopm hol hp12 hob
      go_wp2_with fail
      go_region_held3 (fun w'=>w'.cell? ⟨b2,0,none⟩=some (.pointer (some ⟨D,0,none⟩))∧w'.cell? ⟨D,1,none⟩=some (.pointer (some ⟨pa,0,none⟩))∧w'.cell? ⟨b1,0,none⟩=some (.int .u64 (rev:Int)))
       (first | (go_split_ands;exact HKE.out _ (below_then HBX.out (below_drew hbS))) | go_keep)
       (first | (go_at_call 72;refine HS.out.mono ?_;rintro e wG ⟨A7,c7,rfl,hoS,hbS⟩))
      have HBG:=Lib.hid (below_then HBX.out (below_drew hbS))
      have HOG:=Lib.hid hoS
      have HG2:=Lib.hid (HOA.out.then_ (below_drew hbS))
      have HU:=Lib.hid (OwnU.uns (OwnR.then_ HOU.out (below_drew hbS)))
      clear hbS hoS HS x1 x2 x3 x3' d1 f0 f1 f2 f3
      obtain ⟨_,L6,hL6,hL6P⟩:=HOG.out.inF
      have hP0l:∀ o ∈ P0,o.l.length≤256:=fun o ho=>by
       rw [HP0.out] at ho
       exact (HO.out.p.row o (List.mem_of_mem_drop ho)).1
      have hq256:P0.length≤256:=by
       rw [HP0.out,List.length_drop]
       have:=HO.out.p.cnt
       omega
      have hLl:∀ o ∈ L6,o.l.length≤1000:=fun o ho=>by
       have:=hP0l o.op (by rw [← hL6P];exact List.mem_map.2 ⟨o,ho,rfl⟩)
       show o.op.l.length≤1000
       omega
      have hmap:(L6.map rvOf).map RowV.l=Pl.rowsO P0:=by rw [← hL6P,List.map_map,Pl.rowsO,List.map_map];rfl
      have hlen6:(L6.map rvOf).length≤1000:=by
       have h1:=hL6.1.len
       rw [List.length_map]
       omega
      have hap:∀ q ∈ L6.map rvOf,Apart (fun b=>k b≠0) q.A q.n:=fun q hq=>by
       obtain ⟨o,ho,rfl⟩:=List.mem_map.1 hq
       refine (hL6.2.2 o ho).2.apart fun b hb hn=>?_
       have h1:=HH.out.lt b hn
       have h2:=HBX.out.size
       have h3:=hb.1
       have h4:wc.drew.heap.size=wc.heap.size:=rfl
       omega
      have hRW:=fun (wr:World) (hb:Below wG.heap.size wG wr)=>rows_any (hL6.then_ hb) (by omega) hLl
      obtain ⟨RV,hRV⟩ : ∃ RV,RV=L6.map rvOf:=⟨_,rfl⟩
      rw [← hRV] at hRW hmap hlen6 hap
      have HRW:=Lib.hid (fun (wr:World) (hb:Below wG.heap.size wG wr)=>(hRW wr hb).mono fun e w3 ⟨B,dB,h1,h2,h3,h4⟩=>(show ∃ v,e=Ending.returned v∧RwK k RV v w3∧Below wr.heap.size wr w3 from ⟨_,h1,⟨B,dB,rfl,h2,fun a h0 ea=>by
       have h5:=h3 a h0 ea
       rcases Nat.eq_zero_or_pos (k a.block) with h | h
       ·exact h
       ·have h6:=HH.out.lt a.block (by omega)
        have h7:=HBG.out.size
        have h8:=hb.size
        omega,hap⟩,h4⟩))
      obtain ⟨er,her⟩ : ∃ er,er=d.undoRow x y rev:=⟨_,rfl⟩
      have her2:Pl.cleanL (Pl.pastR (Pl.invR x y ol) (Pl.rowsO P0))=er:=by
       rw [her,HP0.out]
       unfold Pl.Dc.undoRow Pl.backR
       rw [← HOPP.out]
       rfl
      have hel:er.length≤256:=by
       have h1:=Pl.back_len x y ol (Pl.rowsO P0)
       unfold Pl.backR at h1
       rw [her2] at h1
       have:=HOLL.out
       omega
      have HPS:=Lib.hid (fun (wA:World) B dB (hR:RowsV wA B RV) (hb:Below wG.heap.size wG wA)=>show Calls Tryz.prog 107 #[.slice A6 ol.length c6,.agg #[.int .u32 x,.int .u64 y],.slice B RV.length dB] wA fun e w3=>∃ v,e=.returned v∧UnK k er v w3∧Below wA.heap.size wA w3 from by
       have:=back_any A6 ol.length c6 ol x y B dB RV wA (Rws.then_ HU.out hb) hR (by have:=HOLL.out;omega) hlen6
       rw [hmap,her2] at this
       refine this.mono fun e w3 ⟨A5,c5,h1,h2,h3⟩=>⟨_,h1,⟨A5,c5,_,rfl,h2,fun b hn=>Nat.lt_of_lt_of_le (HH.out.lt b hn) (Nat.le_trans HBG.out.size hb.size)⟩,h3⟩)
      obtain ⟨br,hbr⟩ : ∃ br,br=d.bars er:=⟨_,rfl⟩
      have hCM:=fun (wB:World) A5 c5 B (ho:OwnU wB B (.slice A5 er.length c5) er) (hb:Below w.heap.size w wB)=>commit_any (HH.out.then_ hb) HO.out x y A5 er.length c5 er (OwnU.uns ho) (by omega) hm
      rw [← hbr] at hCM
      obtain ⟨dC,hdC⟩ : ∃ dC,dC=if br=0 then d.behind x y er else d:=⟨_,rfl⟩
      rw [← hdC] at hCM
      have HCM:=Lib.hid hCM
      have HER:=Lib.hid (And.intro her (And.intro hbr (And.intro hdC hel)))
      have hkg:k g=0:=by
       rcases Nat.eq_zero_or_pos (k g) with h | h
       ·exact h
       ·have h1:=HH.out.lt g (by omega)
        have h2:=HG.out
        omega
      have HYC:=Lib.hid (fun (W:World) (hv:∃ k',Mv k wG k' W)=>And.intro (cell0 (r:=[]) (hv.choose_spec.old (below_old HBG.out HX.out.2.1 (lt_of_block HX.out.2.1)) HK.out.1.2.1)) (And.intro (cell0 (r:=[.int .u64 y]) (hv.choose_spec.old (below_old HBG.out HX.out.2.2.1 (lt_of_block HX.out.2.2.1)) HK.out.1.2.2.1)) (And.intro (cell1 (r:=[]) (hv.choose_spec.old (below_old HBG.out HX.out.2.2.1 (lt_of_block HX.out.2.2.1)) HK.out.1.2.2.1)) (cell2 (r:=[.bool false]) (hv.choose_spec.old HG2.out hkg)))))
      clear hL6 hL6P hP0l hLl hmap hRV her her2 hbr hdC hRW hap hCM hel hkg L6 hlen6
      go_wp2_with fail
      refine Rq.wp_region_inv (CmS wG D pa tx ls mk k m dC br 6 7 8) (CmT k) (Rq.Wd.at [.is (.pointer (some ⟨D,0,none⟩)),.is (.agg #[.int .u32 x,.int .u64 y]),.is (.pointer (some ⟨g,2,none⟩)),.is (.slice A6 ol.length c6),.is (.agg #[.int .u32 x,.int .u64 y]),.is (.slice A7 P0.length c7),.pred (RwK k RV),.pred (UnK k er),.is (.int .i64 br),.is (.int .i64 br)]) (by kernel_rfl) (by kernel_rfl) (Rq.Wd.stays _ _ (fun i q hi=>(by rcases i with _ | _ | _ | _ | _ | _ | _ | _ | _ | _ | i <;> simp at hi <;> (subst hi;first | exact fun k v w1 w2 _ h hr=>RwK.tn h hr | exact fun k v w1 w2 _ h hr=>UnK.tn h hr)))) (CmS.begin (below_drawn (Below.refl _ _))) ⟨?_,?_,?_,?_,?_,?_,?_,?_,?_,?_,trivial⟩ ?_
      ·intro L a w1 hL hS hb hd
       have e2:=hb 2 (Rq.nw (by decide))
       simp [Act.eval] at e2
       exact Rq.does_pure (Rq.wanted_none rfl) (by simp [execOp,e2,(HYC.out w1 hS.mv).1,go_sem]) rfl (hS.stay (by decide)) (cmT_refl _ _ _)
      ·intro L a w1 hL hS hb hd
       have e3:=hb 3 (Rq.nw (by decide))
       simp [Act.eval] at e3
       exact Rq.does_pure (Rq.wanted_none rfl) (by simp [execOp,e3,(HYC.out w1 hS.mv).2.1,(HYC.out w1 hS.mv).2.2.1,go_sem]) rfl (hS.stay (by decide)) (cmT_refl _ _ _)
      ·intro L a w1 hL hS hb hd
       have e7:=hb 7 (Rq.nw (by decide))
       simp [Act.eval] at e7
       exact Rq.does_pure (Rq.wanted_none rfl) (by simp [execOp,e7,go_sem]) rfl (hS.stay (by decide)) (cmT_refl _ _ _)
      ·intro L a w1 hL hS hb hd
       have p48:=(hd ⟨2,.data⟩ (by simp) rfl).2 _ _ rfl rfl
       have e48:a.tmps[48]?.getD undef=(.pointer (some ⟨g,2,none⟩)):=Rq.slot p48
       exact Rq.does_pure (Rq.wanted_none rfl) (by simp [execOp,e48,(HYC.out w1 hS.mv).2.2.2,go_sem]) rfl (hS.stay (by decide)) (cmT_refl _ _ _)
      ·intro L a w1 hL hS hb hd
       have e3:=hb 3 (Rq.nw (by decide))
       simp [Act.eval] at e3
       exact Rq.does_pure (Rq.wanted_none rfl) (by simp [execOp,e3,(HYC.out w1 hS.mv).2.1,(HYC.out w1 hS.mv).2.2.1,go_sem]) rfl (hS.stay (by decide)) (cmT_refl _ _ _)
      ·intro L a w1 hL hS hb hd
       have e9:=hb 9 (Rq.nw (by decide))
       simp [Act.eval] at e9
       exact Rq.does_pure (Rq.wanted_none rfl) (by simp [execOp,e9,go_sem]) rfl (hS.stay (by decide)) (cmT_refl _ _ _)
      ·intro L a w1 hL hS hb hd
       have p51:=(hd ⟨5,.data⟩ (by simp) rfl).2 _ _ rfl rfl
       have e51:a.tmps[51]?.getD undef=(.slice A7 P0.length c7):=Rq.slot p51
       refine Rq.does_call (f:=77) (args:=#[.slice A7 P0.length c7]) (Rq.wanted_none rfl) (by simp [e51,go_sem]) ?_
       refine (HRW.out w1 (hS.1 (hS.no_a hL))).mono ?_;rintro e w3 ⟨v3,rfl,hv3,hb3⟩;exact ⟨_,rfl,hv3,hS.first (by decide) hL hb3,Tn.of _ hb3⟩
      ·intro L a w1 hL hS hb hd
       have p49:=(hd ⟨3,.data⟩ (by simp) rfl).2 _ _ rfl rfl
       have e49:a.tmps[49]?.getD undef=(.slice A6 ol.length c6):=Rq.slot p49
       have p50:=(hd ⟨4,.data⟩ (by simp) rfl).2 _ _ rfl rfl
       have e50:a.tmps[50]?.getD undef=(.agg #[.int .u32 x,.int .u64 y]):=Rq.slot p50
       have p52:=(hd ⟨6,.data⟩ (by simp) rfl).2 _ _ rfl rfl
       obtain ⟨B,dB,hv52,hr,_⟩:=p52;have e52:=Rq.slot hv52;refine Rq.does_call (f:=107) (args:=#[.slice A6 ol.length c6,.agg #[.int .u32 x,.int .u64 y],.slice B RV.length dB]) (Rq.wanted_none rfl) (by simp [e49,e50,e52,go_sem]) ?_;refine (HPS.out w1 B dB hr (hS.1 (hS.no_b hL))).mono ?_;rintro e w3 ⟨v3,rfl,hv3,hb3⟩;exact ⟨_,rfl,hv3,hS.second (by decide) hL (hd ⟨6,.data⟩ (by simp) rfl).1 hb3,Tn.of _ hb3⟩
      ·intro L a w1 hL hS hb hd
       have p46:=(hd ⟨0,.data⟩ (by simp) rfl).2 _ _ rfl rfl
       have e46:a.tmps[46]?.getD undef=(.pointer (some ⟨D,0,none⟩)):=Rq.slot p46
       have p47:=(hd ⟨1,.data⟩ (by simp) rfl).2 _ _ rfl rfl
       have e47:a.tmps[47]?.getD undef=(.agg #[.int .u32 x,.int .u64 y]):=Rq.slot p47
       have p53:=(hd ⟨7,.data⟩ (by simp) rfl).2 _ _ rfl rfl
       obtain ⟨A5,c5,B5,hv53,ho5,_⟩:=p53;have e53:=Rq.slot hv53;refine Rq.does_call (f:=75) (args:=#[.pointer (some ⟨D,0,none⟩),.agg #[.int .u32 x,.int .u64 y],.slice A5 er.length c5]) (Rq.wanted_none rfl) (by simp [e46,e47,e53,go_sem]) ?_;refine (HCM.out w1 A5 c5 B5 ho5 (below_then HBG.out (hS.1 hL))).mono ?_;rintro e w3 hc;obtain ⟨k3,m3,rfl,_,_,hv3⟩:=id hc;exact ⟨_,rfl,rfl,hS.done hL (hd ⟨7,.data⟩ (by simp) rfl).1 hc,hv3.tn⟩
      ·intro L a w1 hL hS hb hd
       have p54:=(hd ⟨8,.data⟩ (by simp) rfl).2 _ _ rfl rfl
       have e54:a.tmps[54]?.getD undef=(.int .i64 br):=Rq.slot p54
       exact Rq.does_pure (Rq.wanted_none rfl) (by simp [execOp,e54,go_sem]) rfl (hS.stay (by decide)) (cmT_refl _ _ _)
      intro L v wC hS hall hv
      have h9:v 9=.int .i64 br:=hv 9 _ _ rfl rfl
      obtain ⟨wB,hbB,kC,mC,_,hdm,hmC,hvC⟩:=hS.2.1 (hall 8 (by decide))
      have HDC:=Lib.hid hdm
      have HMC:=Lib.hid hmC
      have HVC:=Lib.hid ((Mv.of k (below_then HBG.out hbB)).trans hvC)
      simp only [Rq.putAll,Nat.zero_add,Nat.reduceAdd]
      simp only [Act.put,List.setIfInBounds_toArray,List.set_cons_succ,List.set_cons_zero]
      rw [h9]
      clear h9 hS hall hv hbB hdm hmC hvC HCM HPS HRW HYC
      have hE0:d.undoE x y rev=br:=by
       unfold Pl.Dc.undoE
       rw [if_neg hz,← HE.out,if_neg (by decide),if_neg (by rw [← HOPP.out];simpa using hxx),if_neg (by rw [← HOPP.out];simp),← HER.out.1,← HER.out.2.1]
      have HE0:=Lib.hid hE0
      clear hE0
      by_cases hb0:br=0
      ·subst hb0
       have hdC:dC=d.behind x y er:=by rw [HER.out.2.2.1,if_pos rfl]
       subst hdC
       have hrl:rev - d.fr - 1<d.P.length:=by have:=HP12.out;omega
       have hPb:(d.behind x y er).P=d.P ++ [d.newOp x y er]:=rfl
       have hgb:(d.behind x y er).P.getD (rev - d.fr - 1) default=d.opAt rev:=by
        rw [hPb,List.getD_eq_getElem?_getD,List.getElem?_append_left hrl,← List.getD_eq_getElem?_getD];rfl
       have hob2:((d.behind x y er).P.getD (rev - d.fr - 1) default).b=false:=by rw [hgb,← HOPP.out]
       -- the operation is Undone
       have hpG:=HDC.out.drew.past.more (G:=fun b=>kC b=2∨wC.drew.heap.size≤b) (fun b hb=>.inl hb) (fun h=>by
        rcases h with h | h
        ·have:=HDC.out.kp;omega
        ·have:=HDC.out.drew.lt pa (by rw [HDC.out.kp];decide);omega)
       have hUn:=undo_ok hpG (fun b hb=>.inr hb) (rev - d.fr) rev (by show rev=d.fr + _;have:=HP12.out;omega) (by have:=HP12.out;omega) (by rw [hPb,List.length_append];omega) hob2
       have HUN:=Lib.hid hUn
       have y1:=HVC.out.old HX.out.1 HK.out.1.1
       have y2:=HVC.out.old HX.out.2.1 HK.out.1.2.1
       have y3:=HVC.out.old HX.out.2.2.1 HK.out.1.2.2.1
       have y4:=HVC.out.old HX.out.2.2.2 HK.out.1.2.2.2
       have hkC:∀ b,k b=0→b<w.heap.size→kC b=0:=fun b h1 h2=>(HVC.out.eq b h2).trans h1
       have hnp:∀ b,kC b=0→¬ b=pa:=fun b h e=>by rw [e,HDC.out.kp] at h;cases h
       have hDp:¬ D=pa:=fun e=>by have h:=HDC.out.kD;rw [e,HDC.out.kp] at h;cases h
       have x1:=cell0 (r:=[]) y1
       have x2:=cell0 (r:=[]) y2
       have dd1:=HDC.out.cells.2.1
       have hlD:=lt_of_block HDC.out.blk
       have HKU:=Lib.hid (fun (wE:World) (ht:Tn (fun b=>b=pa) wC.drew wE)=>And.intro (cell0 (r:=[]) (ht.old (w:=wC.drew) y2 (hnp _ (hkC b2 HK.out.1.2.1 (lt_of_block HX.out.2.1))))) (And.intro ((ht.cell (p:=⟨D,1,none⟩) hlD hDp).trans dd1) (cell0 (r:=[]) (ht.old (w:=wC.drew) y1 (hnp _ (hkC b1 HK.out.1.1 (lt_of_block HX.out.1)))))))
       clear hpG hUn hob2 hgb hrl hPb hkC hnp hDp hlD y1 y2 y3 y4
       go_wp2_with fail
       go_region_held3 (fun w'=>w'.cell? ⟨b2,0,none⟩=some (.pointer (some ⟨D,0,none⟩))∧w'.cell? ⟨D,1,none⟩=some (.pointer (some ⟨pa,0,none⟩))∧w'.cell? ⟨b1,0,none⟩=some (.int .u64 (rev:Int)))
        (first | (go_split_ands;exact HKU.out _ htU) | go_keep)
        (first | (go_at_call 108;refine HUN.out.mono ?_;rintro e wU ⟨rfl,hpU,htU⟩))
       obtain ⟨kU,hdU,hvU⟩:=HDC.out.drew.setP (fr':=d.fr) (n':=d.n) hpU htU
       have hVU:=(HVC.out.then_ (below_drawn (Below.refl _ _))).trans hvU
       have hdU2:DocM wU D pa tx ls mk kU ((d.behind x y er).mark (rev - d.fr - 1)).cs.length ((d.behind x y er).mark (rev - d.fr - 1)) mC:=hdU
       have HDU:=Lib.hid hdU2
       have HVU:=Lib.hid hVU
       clear hpU htU hdU hvU hdU2 hVU x1 x2 dd1 HKU HUN
       obtain ⟨dU,hdU⟩ : ∃ dU,dU=(d.behind x y er).mark (rev - d.fr - 1):=⟨_,rfl⟩
       rw [← hdU] at HDU
       have HdU:=Lib.hid hdU
       obtain ⟨nn,hnn⟩ : ∃ nn,nn=d.now:=⟨_,rfl⟩
       obtain ⟨nn1,hnn1⟩ : ∃ nn1,nn1=dU.now:=⟨_,rfl⟩
       have hn1:nn1=nn + 1:=by
        rw [hnn1,hnn,hdU]
        show d.fr + ((d.P ++ [_]).set _ _).length=d.fr + d.P.length + 1
        rw [List.length_set,List.length_append]
        rfl
       have hnm:nn≤1099511627776:=by rw [hnn];exact HO.out.p.rev
       have hw:=wrap_u64 (a:=(nn:Int)) (by omega) (by omega)
       have hw1:IntKind.u64.wrap ((nn1:Int) - 1)=(nn:Int):=by rw [show (nn1:Int) - 1=(nn:Int) by omega];exact hw
       have hRV:=rev_doc HDU.out.drew
       rw [← hnn1] at hRV
       have HRV:=Lib.hid hRV
       have hdr:dU.P.drop (nn - d.fr)=[d.newOp x y er]:=by
        rw [hdU,hnn]
        show ((d.P ++ [d.newOp x y er]).set _ _).drop (d.fr + d.P.length - d.fr)=_
        rw [Nat.add_sub_cancel_left,List.drop_set_of_lt (by have:=HP12.out;omega),List.drop_left]
       have hSn:=since_ok HDU.out.drew.past (nn - d.fr) nn (by rw [hdU];show nn=d.fr + _;rw [hnn];unfold Pl.Dc.now;omega) (by
        rw [hdU]
        show nn - d.fr≤((d.P ++ [_]).set _ _).length
        rw [List.length_set,List.length_append,hnn]
        unfold Pl.Dc.now
        omega)
       rw [hdr] at hSn
       have HSN:=Lib.hid hSn
       have HAC:=Lib.hid (show AnAt wU al 0 0 false none 0 0 none 0 0 none 0 0 from HVU.out.old HA.out HKA.out)
       have y2:=HVU.out.old HX.out.2.1 HK.out.1.2.1
       have y3:=HVU.out.old HX.out.2.2.1 HK.out.1.2.2.1
       have y4:=HVU.out.old HX.out.2.2.2 HK.out.1.2.2.2
       have HY:=Lib.hid (And.intro y2 (And.intro y3 y4))
       have x2:=cell0 (r:=[]) y2
       have dd1:=HDU.out.cells.2.1
       have HKS:=Lib.hid (fun (wE:World) (hb:Below wU.drew.heap.size wU.drew wE)=>And.intro ((hb.cell (p:=⟨b2,0,none⟩) (World.block_lt_of_cell? wU _ x2)).trans x2) ((hb.cell (p:=⟨D,1,none⟩) (World.block_lt_of_cell? wU _ dd1)).trans dd1))
       have hDal:D≠al:=fun e=>by have h1:=HH.out.kD;rw [e,HKA.out] at h1;cases h1
       have HKZ:=Lib.hid (fun (wE:World) (v:Value) (hb:Below wU.drew.heap.size wU.drew wE)=>And.intro ((((Tn.refl (fun b=>b=al) wE).set_ (p:=⟨al,5,none⟩) (Or.inr rfl) v).cell (p:=⟨b2,0,none⟩) (World.block_lt_of_cell? wE _ (HKS.out wE hb).1) (fun e=>HK.out.2 (.inr (.inl e)))).trans (HKS.out wE hb).1) ((((Tn.refl (fun b=>b=al) wE).set_ (p:=⟨al,5,none⟩) (Or.inr rfl) v).cell (p:=⟨D,1,none⟩) (World.block_lt_of_cell? wE _ (HKS.out wE hb).2) hDal).trans (HKS.out wE hb).2))
       have HNN:=Lib.hid (And.intro hn1 hnm)
       clear hdU hnn hnn1 hn1 hnm hw hRV hdr hSn y2 y3 y4 hDal
       go_wp2_with fail
       go_region_held3 (fun w'=>w'.cell? ⟨b2,0,none⟩=some (.pointer (some ⟨D,0,none⟩))∧w'.cell? ⟨D,1,none⟩=some (.pointer (some ⟨pa,0,none⟩)))
        (first | (go_split_ands;exact HKS.out _ hbS) | (go_split_ands;exact HKZ.out _ _ hbS) | go_keep)
        (first | (go_at_call 17;refine HRV.out.mono ?_;rintro e wR ⟨rfl,rfl⟩) | (go_at_call 72;refine HSN.out.mono ?_;rintro e wS ⟨A8,c8,rfl,hoS,hbS⟩;obtain ⟨f0,f1,f2,f3,f4,f5,f6⟩:=(HAC.out.then_ (below_drew hbS)).cells;have f7:=(HAC.out.then_ (below_drew hbS)).frozen))
       have hb9:Below wU.heap.size wU wS:=below_drew hbS
       have t9:Tn (fun b=>b=al) wS (wS.setCell ⟨al,5,none⟩ (.slice A8 1 c8)):=(Tn.refl (fun b=>b=al) wS).set_ (p:=⟨al,5,none⟩) (Or.inr rfl) _
       have hd9:DocM (wS.setCell ⟨al,5,none⟩ (.slice A8 1 c8)) D pa tx ls mk kU dU.cs.length dU mC:=(HDU.out.then_ hb9).tn t9 (fun b hb e=>by
        rw [e] at hb
        exact hb ((HVU.out.eq al HA.out.lt).trans HKA.out))
       obtain ⟨y2,y3,y4⟩:=HY.out
       have hne:=HK.out.2
       have q2:=t9.old (below_old hb9 y2 (lt_of_block y2)) (fun e=>hne (.inr (.inl e)))
       have q3:=t9.old (below_old hb9 y3 (lt_of_block y3)) (fun e=>hne (.inr (.inr (.inl e))))
       have q4:=t9.old (below_old hb9 y4 (lt_of_block y4)) (fun e=>hne (.inr (.inr (.inr e))))
       have HOS9:=Lib.hid (And.intro hb9 hoS)
       have HD9:=Lib.hid hd9
       clear f0 f1 f2 f3 f4 f5 f6 f7 hbS hoS hb9 t9 hd9 y2 y3 y4 hne HKZ HKS HSN x2 dd1 HRV
       generalize hW9:wS.setCell ⟨al,5,none⟩ (.slice A8 1 c8)=w9 at HD9 q2 q3 q4 ⊢
       have HW9:=Lib.hid hW9
       clear hW9
       have hSL:=HD9.out.drew.setLs HXX.out now h0
       have hl0:(Pl.setL dU.L x now).1=0:=by rw [HdU.out];exact Pl.Dc.set_live HL.out hnow
       rw [hl0] at hSL
       have HSL:=Lib.hid hSL
       have x2:=cell0 (r:=[]) q2
       have x3:=cell0 (r:=[.int .u64 y]) q3
       have x4:=cell0 (r:=[]) q4
       have dd3:=HD9.out.cells.2.2.2.1
       have hkC:∀ b,k b=0→b<w.heap.size→kU b=0:=fun b h1 h2=>(HVU.out.eq b h2).trans h1
       have HKL:=Lib.hid (fun (wE:World) (ht:Tn (fun b=>kU b=6) w9.drew wE)=>And.intro (cell0 (r:=[]) (ht.old (w:=w9.drew) q2 (by rw [hkC b2 HK.out.1.2.1 (lt_of_block HX.out.2.1)];decide))) (And.intro ((ht.cell (p:=⟨D,3,none⟩) (lt_of_block HD9.out.blk) (by rw [show (⟨D,3,none⟩ : Addr).block=D from rfl,HD9.out.kD];decide)).trans dd3) (And.intro (cell0 (r:=[.int .u64 y]) (ht.old (w:=w9.drew) q3 (by rw [hkC b3 HK.out.1.2.2.1 (lt_of_block HX.out.2.2.1)];decide))) (cell0 (r:=[]) (ht.old (w:=w9.drew) q4 (by rw [hkC b4 HK.out.1.2.2.2 (lt_of_block HX.out.2.2.2)];decide))))))
       clear hSL hl0 q2 q3 q4 hkC
       go_wp2_with fail
       go_region_held3 (fun w'=>w'.cell? ⟨b2,0,none⟩=some (.pointer (some ⟨D,0,none⟩))∧w'.cell? ⟨D,3,none⟩=some (.pointer (some ⟨ls,0,none⟩))∧w'.cell? ⟨b3,0,none⟩=some (.int .u32 x)∧w'.cell? ⟨b4,0,none⟩=some (.int .u64 now))
        (first | (go_split_ands;exact HKL.out _ htL) | go_keep)
        (first | (go_at_call 64;refine HSL.out.mono ?_;rintro e wL9 ⟨rfl,hdL,htL⟩))
       have HDL:=Lib.hid (And.intro hdL htL)
       clear hdL htL
       go_wp2_with fail
       rw [HR0.out]
       have hed:d.undoF x y rev now=(dU.renewed x now,⟨0,0,false,[],[d.newOp x y er],[]⟩):=by
        unfold Pl.Dc.undoF
        rw [HE0.out,if_neg (by decide),← HER.out.1,HdU.out]
       rw [hed]
       exact OwnD.ops HH.out.lt HKA.out HA.out.lt HDU.out.lt HMC.out HVU.out HAC.out HOS9.out.1 HOS9.out.2 (by show Tn _ (wS.setCell ⟨al,5,none⟩ (.slice A8 1 c8)) wL9;rw [HW9.out];exact (Tn.of (fun b=>kU b=6) (below_drawn (Below.refl w9.heap.size w9))).trans HDL.out.2 (fun _ _ h=>h)) HDL.out.1
      ·have z4:(br != 0)=true:=by simpa using hb0
       have z5:decide (br≠0)=true:=decide_eq_true hb0
       have hdC:dC=d:=by rw [HER.out.2.2.1,if_neg hb0]
       subst hdC
       go_wp2_with fail
       rw [HR0.out]
       have:dC.undoF x y rev now=(dC,Pl.fails br):=by unfold Pl.Dc.undoF;rw [HE0.out,if_pos hb0]
       rw [this]
       exact ⟨kC,mC,rfl,HDC.out,HMC.out,HVC.out.tn.more fun b _ h=>.inl h,HVC.out.eq,fun h=>absurd h hb0⟩
    ·have z2:(ox != x)=true:=by simpa using hxx
     have z3:decide (ox≠x)=true:=decide_eq_true hxx
     go_wp2_with fail
     have hop:=HOP.out
     rw [if_pos trivial] at hop
     exact HBAD.out 33 wc (by decide) (by unfold Pl.Dc.undoE;rw [if_neg hz,← HE.out,if_neg (by decide),if_pos (by rw [← hop];exact hxx)]) HBX.out
   ·have z1:(E != 0)=true:=by simpa using hE0
    have z2:decide (E≠0)=true:=decide_eq_true hE0
    go_wp2_with fail
    exact HBAD.out E wc hE0 (by unfold Pl.Dc.undoE;rw [if_neg hz,← HE.out,if_pos hE0]) HBX.out
end
end Go.Proofs.YtlgdcelgkiipaaaGreat
