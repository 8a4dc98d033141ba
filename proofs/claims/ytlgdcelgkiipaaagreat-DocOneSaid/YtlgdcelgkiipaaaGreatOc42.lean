/-
  What Fetch does of its own. Conditions: those that it states.
-/
import Derived.Test.YtlgdcelgkiipaaaGreatOc40
import Derived.Test.YtlgdcelgkiipaaaGreatOc41
import Derived.StillTailTactics
set_option maxRecDepth 100000
set_option linter.unusedVariables false
namespace Go.Proofs.YtlgdcelgkiipaaaGreat
open Go.RowKit
open Pl (Un)
namespace Pl.Dc
def fetchF (c:Int) (rev:Nat) (most t:Int) (d:Dc):Dc × An :=
 if most<0 then (d,fails 1) else if d.now<rev then (d,fails 31) else (d.renewed c t,{ d.tells rev false with ops:=if most=0 then (d.tells rev false).ops else (d.tells rev false).ops.take most.toNat })
end Pl.Dc
theorem slice_capO (A:Option Addr) (n c k:Nat) (hk:k≤c):∀ w',(Instr.sliceAt 34 (.slice A n c) none (some (.int .i64 (k:Int))) (some (.int .i64 (k:Int)))).run Tryz.prog w'=.ok (.slice A k k) w':=by
 intro w'
 obtain ⟨i0,hi,_⟩:=info_parts infoO
 have hu:Tryz.prog.underlying 34=some (.slice (Tryz.prog.elem 34)):=by kernel_rfl
 have he:Tryz.prog.elem 34=45:=by kernel_rfl
 rw [run_sliceAt_slice w' _ _ _ _ _ hu,run_slice_hm w' 34 A n c hu .i64 .i64 (k:Int) (k:Int) (by omega) (by omega) (by omega),he,run_sizeOf w' hi]
 simp only [Result.andThen,sliced,Int.toNat_natCast,Nat.zero_mul,Nat.sub_zero]
 congr 2
 split
 ·rfl
 ·cases A <;> rfl
section
variable {w:World} {D pa tx ls mk m al:Nat} {k:Nat→Nat} {d:Pl.Dc}
set_option maxHeartbeats 2000000 in
theorem fetch1_any (h:DocM w D pa tx ls mk k d.cs.length d m) (hok:d.Ok) {c:Int} (hc:0≤c∧c<4294967296) (rev:Nat) (hrev:rev≤18446744073709551615) (most:Int) (hmo:most≤9223372036854775807) (now:Int) (h0:0≤now) (hnow:now≤1099511627776) (hl:Pl.liveM d.L c now=true) (hA:AnAt w al 0 0 false none 0 0 none 0 0 none 0 0) (hka:k al=0) (b1 b2 b3 b4 b5:Nat)
  (e1:w.heap[b1]?=some (.cells #[.int .i64 most] 3 (0,0))) (e2:w.heap[b2]?=some (.cells #[.int .u64 (rev:Int)] 27 (0,0))) (e3:w.heap[b3]?=some (.cells #[.pointer (some ⟨D,0,none⟩)] 23 (0,0))) (e4:w.heap[b4]?=some (.cells #[.int .u32 c] 28 (0,0))) (e5:w.heap[b5]?=some (.cells #[.int .u64 now] 27 (0,0)))
  (hk:(k b1=0∧k b2=0∧k b3=0∧k b4=0∧k b5=0)∧¬ (b1=al∨b2=al∨b3=al∨b4=al∨b5=al)) :
  Calls Tryz.prog 101 #[.pointer (some ⟨al,0,none⟩),.pointer (some ⟨b1,0,none⟩),.pointer (some ⟨b2,0,none⟩),.pointer (some ⟨b3,0,none⟩),.pointer (some ⟨b4,0,none⟩),.pointer (some ⟨b5,0,none⟩)] w (OwnD w D pa tx ls mk al k m (d.fetchF c rev most now)):=by
 obtain ⟨R,hR⟩ : ∃ R,R=OwnD w D pa tx ls mk al k m (d.fetchF c rev most now):=⟨_,rfl⟩
 rw [← hR]
 have HR:=Lib.hid hR
 have HH:=Lib.hid h
 have HA:=Lib.hid hA
 have HX:=Lib.hid (And.intro e1 (And.intro e2 (And.intro e3 (And.intro e4 e5))))
 have HK:=Lib.hid hk
 have HKA:=Lib.hid hka
 have HC:=Lib.hid hc
 have HL:=Lib.hid hl
 obtain ⟨nw,hnw⟩ : ∃ nw,nw=d.now:=⟨_,rfl⟩
 have HV:=Lib.hid (fun n=>rev_doc (h.drewN n))
 rw [← hnw] at HV
 have HNW:=Lib.hid hnw
 have x1:=cell0 (r:=[]) e1
 have x2:=cell0 (r:=[]) e2
 have x3:=cell0 (r:=[]) e3
 clear h hR hok hl hA e1 e2 e3 e4 e5 hk hc hka hnw
 go_enter Tryz.func101,Tryz.ntmps101
 by_cases hm:most<0
 ·go_wp2_with fail
  rw [HR.out,show d.fetchF c rev most now=(d,Pl.fails 1) from if_pos hm]
  exact OwnD.bad HH.out al (by decide) (Below.refl _ _)
 ·go_wp2_with fail
  go_quiet ((go_at_call 17;exact quiet_of (HV.out _)))
  obtain ⟨wq,hwq⟩ : ∃ x,x=w.drewN nq:=⟨_,rfl⟩
  rw [← hwq]
  have HBQ:=Lib.hid (show Below w.heap.size w wq by rw [hwq];exact below_drewN _ _)
  clear hwq x1 x2 x3 HV
  by_cases hr:nw<rev
  ·have z1:decide ((rev:Int) > (nw:Int))=true:=decide_eq_true (by omega)
   have z2:decide ((nw:Int)<(rev:Int))=true:=decide_eq_true (by omega)
   go_wp2_with fail
   rw [HR.out,show d.fetchF c rev most now=(d,Pl.fails 31) from by unfold Pl.Dc.fetchF;rw [if_neg (by omega),if_pos (by rw [← HNW.out];exact hr)]]
   exact OwnD.bad HH.out al (by decide) HBQ.out
  ·have z1:decide ((rev:Int) > (nw:Int))=false:=decide_eq_false (by omega)
   have z2:decide ((nw:Int)<(rev:Int))=false:=decide_eq_false (by omega)
   have hq:=HH.out.then_ HBQ.out
   have y2:=below_old HBQ.out HX.out.2.1 (lt_of_block HX.out.2.1)
   have y3:=below_old HBQ.out HX.out.2.2.1 (lt_of_block HX.out.2.2.1)
   have x2:=cell0 (r:=[]) y2
   have x3:=cell0 (r:=[]) y3
   have HAQ:=Lib.hid (HA.out.then_ HBQ.out)
   have HK9:=Lib.hid (fun (wT:World) (h:Tn (fun b=>b=al) wq.drew wT)=>And.intro (cell0 (r:=[]) (h.old (w:=wq.drew) y2 (fun e=>HK.out.2 (.inr (.inl e))))) (cell0 (r:=[]) (h.old (w:=wq.drew) y3 (fun e=>HK.out.2 (.inr (.inr (.inl e)))))))
   have HR9:=Lib.hid (show ¬ d.now<rev by rw [← HNW.out];exact hr)
   have HFR:=Lib.hid (from_doc hq.drew)
   obtain ⟨fr,hfr⟩ : ∃ fr,fr=d.fr:=⟨_,rfl⟩
   rw [← hfr] at HFR
   have HFRE:=Lib.hid hfr
   obtain ⟨a,ha⟩ : ∃ a,a=d.tells rev false:=⟨_,rfl⟩
   have HAE:=Lib.hid ha
   by_cases hf:rev<fr
   ·have z8:decide ((rev:Int)<(fr:Int))=true:=decide_eq_true (by omega)
    have z9:decide ((fr:Int) > (rev:Int))=true:=decide_eq_true (by omega)
    have hTL:=tell_whole hq.drew (HAQ.out.then_ (below_drawn (Below.refl _ _))) (rev:Int) 0 0
    rw [show (⟨0,0,true,d.cs,[],[]⟩ : Pl.An)=a by rw [ha];unfold Pl.Dc.tells;rw [if_neg HR9.out,if_pos (.inr (by rw [← hfr];exact hf))]] at hTL
    have HTL:=Lib.hid hTL
    clear hTL hfr ha hq y2 y3
    go_wp2_with fail
    go_region_held3 (fun w'=>w'.cell? ⟨b2,0,none⟩=some (.int .u64 (rev:Int))∧w'.cell? ⟨b3,0,none⟩=some (.pointer (some ⟨D,0,none⟩)))
     (first | go_keep | (go_split_ands;exact HK9.out _ htT))
     (first | (go_at_call 26;refine HFR.out.mono ?_;rintro e wF ⟨rfl,rfl⟩) | (go_at_call 66;refine HTL.out.mono ?_;rintro e wT ⟨rfl,hbT,htT⟩))
    obtain ⟨Aa,na,ca,A2,n2,c2,A3,n3,c3,hAT,hRT⟩:=hbT
    have hn2:n2=a.ops.length:=by
     obtain ⟨L,hL,hLE⟩:=hRT.ops
     rw [← hLE,List.length_map,hL.1.len]
    have HN2:=Lib.hid hn2
    have hdT:=(HH.out.then_ HBQ.out).drew.tn htT (fun b hb e=>hb (by rw [e];exact HKA.out))
    have hsz:=HBQ.out.size
    have hRW:=hRT.more (G:=fun b=>w.heap.size≤b∧k b=0) (fun b hb=>⟨Nat.le_trans hsz hb.1,box_zero k b HH.out.lt (Nat.le_trans hsz hb.1)⟩)
    have HT:=Lib.hid (And.intro hdT (And.intro hAT (And.intro hRW (show Tn (fun b=>k b≠0∨b=al) w wT from (Tn.of _ HBQ.out).trans ((Tn.of _ (below_drawn (Below.refl _ _))).trans (htT.more fun _ _ e=>Or.inr e) (fun _ _ h=>h)) (fun _ _ h=>h)))))
    have HT1:=Lib.hid (htT.old (w:=wq.drew) (below_old HBQ.out HX.out.1 (lt_of_block HX.out.1)) (fun e=>HK.out.2 (.inl e)))
    have x1:=cell0 (r:=[]) (htT.old (w:=wq.drew) (below_old HBQ.out HX.out.1 (lt_of_block HX.out.1)) (fun e=>HK.out.2 (.inl e)))
    have HY3:=Lib.hid (htT.old (w:=wq.drew) (below_old HBQ.out HX.out.2.2.1 (lt_of_block HX.out.2.2.1)) (fun e=>HK.out.2 (.inr (.inr (.inl e)))))
    have HY4:=Lib.hid (htT.old (w:=wq.drew) (below_old HBQ.out HX.out.2.2.2.1 (lt_of_block HX.out.2.2.2.1)) (fun e=>HK.out.2 (.inr (.inr (.inr (.inl e))))))
    have HY5:=Lib.hid (htT.old (w:=wq.drew) (below_old HBQ.out HX.out.2.2.2.2 (lt_of_block HX.out.2.2.2.2)) (fun e=>HK.out.2 (.inr (.inr (.inr (.inr e))))))
    obtain ⟨c0,c1,c2',c3',c4,c5,c6⟩:=hAT.cells
    have HA0:=Lib.hid (show a.e=0 by rw [HAE.out];unfold Pl.Dc.tells;rw [if_neg HR9.out];split <;> rfl)
    have hFE:d.fetchF c rev most now=(d.renewed c now,{ a with ops:=if most=0 then a.ops else a.ops.take most.toNat }):=by
     unfold Pl.Dc.fetchF
     rw [if_neg (by omega),if_neg HR9.out,← HAE.out]
    have HFE:=Lib.hid hFE
    clear hn2 hdT hsz hRW htT hRT hAT hFE HTL HFR HK9 HAQ x2 c0 c1 c2' c3' c4 c6
    by_cases hcut:0<most∧most<(n2:Int)
    ·obtain ⟨p,hp⟩ : ∃ p:Nat,(p:Int)=most:=⟨most.toNat,by omega⟩
     subst hp
     have hp0:0<p:=by omega
     have hpn:p<n2:=by omega
     have hle:n2≤c2:=by
      obtain ⟨L,hL,_⟩:=HT.out.2.2.1.ops
      exact hL.1.le
     have sC:=slice_capO A2 n2 c2 p (by omega)
     have z3:decide ((0:Int)<(p:Int))=true:=decide_eq_true (by omega)
     have z4:decide ((p:Int)<(n2:Int))=true:=decide_eq_true (by omega)
     have z5:(0:Int)<(p:Int):=by omega
     have z6:(p:Int)<(n2:Int):=by omega
     have z7:decide (0<p)=true:=decide_eq_true hp0
     have z8':decide (p<n2)=true:=decide_eq_true hpn
     have HPN:=Lib.hid (And.intro hp0 hpn)
     have HY1:=Lib.hid (show wT.heap[b1]?=some (.cells #[.int .i64 (p:Int)] 3 (0,0)) from HT1.out)
     clear hcut hle hp0 hpn HT1
     go_wp2_with fail
     go_quiet (fail)
     obtain ⟨wz,hwz⟩ : ∃ x,x=wT.drewN nq:=⟨_,rfl⟩
     rw [← hwz]
     have hbz:Below wT.heap.size wT wz:=by rw [hwz];exact below_drewN _ _
     have hAz:=HT.out.2.1.then_ hbz
     clear x1 c5
     have x1:=cell0 (r:=[]) (below_old hbz HY1.out (lt_of_block HY1.out))
     obtain ⟨c0,c1,c2',c3',c4,c5,c6⟩:=hAz.cells
     have g7:=hAz.frozen
     have HBZ:=Lib.hid hbz
     clear hwz hbz hAz c0 c1 c2' c3' c4 c6
     go_wp2_with fail
     go_region
     obtain ⟨wy,hwy⟩ : ∃ x,x=(wz.setCell ⟨al,5,none⟩ (.slice A2 p p)).drew:=⟨_,rfl⟩
     rw [← hwy]
     have htY:Tn (fun b=>b=al) wz wy:=by rw [hwy];exact ((Tn.refl (fun b=>b=al) wz).set_ (p:=⟨al,5,none⟩) (Or.inr rfl) _).drew
     obtain ⟨a',ha'⟩ : ∃ a':Pl.An,a'={ a with ops:=a.ops.take p }:=⟨_,rfl⟩
     have HE:=Lib.hid (show d.fetchF c rev (p:Int) now=(d.renewed c now,a') by rw [HFE.out,ha',if_neg (by omega),Int.toNat_natCast])
     have HE0:=Lib.hid (show a'.e=0 by rw [ha'];exact HA0.out)
     have hdW:=(HT.out.1.then_ HBZ.out).tn htY (fun b hb e=>hb (by rw [e];exact HKA.out))
     have htW:=HT.out.2.2.2.trans ((Tn.of (fun b=>k b≠0∨b=al) HBZ.out).trans (htY.more fun _ _ e=>Or.inr e) (fun _ _ h=>h)) (fun _ _ h=>h)
     have hAW:AnB wy al (fun b=>w.heap.size≤b∧k b=0) a':=by
      have hAz:=HT.out.2.1.then_ HBZ.out
      have hRY:=(HT.out.2.2.1.tn (Tn.of (fun _=>False) HBZ.out) (fun _ _ h=>h)).tn htY (fun b hb e=>by have:=HA.out.lt;omega)
      obtain ⟨L,hL,hLE⟩:=hRY.ops
      have hU:=Rws.upto encO_len hL.1 (Nat.le_of_lt HPN.out.2)
      refine ⟨Aa,na,ca,A2,p,p,A3,n3,c3,?_,⟨?_,⟨L.take p,⟨⟨hU.1,Nat.le_refl _,Nat.le_trans hU.2.1 hU.2.2.1,fun e=>by have:=hU.2.2.2.1 e;have:=hU.2.1;omega,hU.2.2.2.2⟩,fun h0 ad e=>hL.2.1 (Nat.lt_trans h0 HPN.out.2) ad e,fun o ho=>hL.2.2 o (List.mem_of_mem_take ho)⟩,?_⟩,?_⟩⟩
      ·have:=blk_set (i:=5) hAz (.slice A2 p p)
       simp only [List.setIfInBounds_toArray,List.set_cons_succ,List.set_cons_zero] at this
       rw [hwy,ha']
       exact this
      ·rw [ha'];exact hRY.text
      ·rw [ha',List.map_take,hLE]
      ·rw [ha'];exact hRY.seats
     have y3:=htY.old (w:=wz) (below_old HBZ.out HY3.out (lt_of_block HY3.out)) (fun e=>HK.out.2 (.inr (.inr (.inl e))))
     have y4:=htY.old (w:=wz) (below_old HBZ.out HY4.out (lt_of_block HY4.out)) (fun e=>HK.out.2 (.inr (.inr (.inr (.inl e)))))
     have y5:=htY.old (w:=wz) (below_old HBZ.out HY5.out (lt_of_block HY5.out)) (fun e=>HK.out.2 (.inr (.inr (.inr (.inr e)))))
     clear hwy htY ha' x1 c5 g7 sC z7 z8'
     have hS:=hdW.drew.setLs HC.out now h0
     rw [Pl.Dc.set_live HL.out (by omega)] at hS
     have HS:=Lib.hid hS
     obtain ⟨d0,d1,d2,d3,d4⟩:=hdW.cells
     have HK4:=Lib.hid (fun (wS:World) (ht:Tn (fun b=>k b=6) wy.drew wS)=>And.intro (cell0 (r:=[]) (ht.old (w:=wy.drew) y3 (by rw [HK.out.1.2.2.1];decide))) (And.intro (ht.cell (p:=⟨D,3,none⟩) (lt_of_block hdW.blk) (by rw [show (⟨D,3,none⟩ : Addr).block=D from rfl,hdW.kD];decide) |>.trans d3) (And.intro (cell0 (r:=[]) (ht.old (w:=wy.drew) y4 (by rw [HK.out.1.2.2.2.1];decide))) (cell0 (r:=[]) (ht.old (w:=wy.drew) y5 (by rw [HK.out.1.2.2.2.2];decide))))))
     have HDW:=Lib.hid (And.intro htW hAW)
     have x3:=cell0 (r:=[]) y3
     have x4:=cell0 (r:=[]) y4
     have x5:=cell0 (r:=[]) y5
     clear hS hdW htW hAW y3 y4 y5 d0 d1 d2 d4
     go_wp2_with fail
     go_region_held3 (fun w'=>w'.cell? ⟨b3,0,none⟩=some (.pointer (some ⟨D,0,none⟩))∧w'.cell? ⟨D,3,none⟩=some (.pointer (some ⟨ls,0,none⟩))∧w'.cell? ⟨b4,0,none⟩=some (.int .u32 c)∧w'.cell? ⟨b5,0,none⟩=some (.int .u64 now))
      (first | go_keep | (go_split_ands;exact HK4.out _ htS))
      (first | (go_at_call 64;refine (HS.out).mono ?_;rintro e wS ⟨rfl,hdS,htS⟩))
     have HF:=Lib.hid (show OwnD w D pa tx ls mk al k m (d.renewed c now,a') (.returned (.int .i64 0)) wS from by
      have hb:Tn (fun b=>k b≠0∨b=al) wy wS:=(Tn.of _ (below_drawn (Below.refl _ _))).trans (htS.more fun _ _ e=>Or.inl (by rw [e];decide)) (fun _ _ h=>h)
      exact ⟨k,m,by rw [HE0.out],hdS,Nat.le_add_right _ _,HDW.out.1.trans hb (fun _ _ h=>h),fun _ _=>rfl,fun _=>(HDW.out.2.tn (Tn.of (fun _=>False) (below_drawn (Below.refl _ _))) (fun _ _ h=>h) (fun h=>h)).tn htS (fun b hb e=>by rw [hb.2] at e;cases e) (by rw [HKA.out];decide)⟩)
     clear hdS htS x3 x4 x5 d3
     go_wp2_with fail
     rw [HR.out,HE.out]
     exact HF.out
    ·obtain ⟨a',ha'⟩ : ∃ a':Pl.An,a'=a:=⟨_,rfl⟩
     have HE:=Lib.hid (show d.fetchF c rev most now=(d.renewed c now,a') by
      rw [HFE.out,ha']
      have h1:=HN2.out
      by_cases h:most=0
      ·rw [if_pos h]
      ·rw [if_neg h,List.take_of_length_le (by omega)])
     have HE0:=Lib.hid (show a'.e=0 by rw [ha'];exact HA0.out)
     by_cases h1:0<most
     ·have z3:decide ((0:Int)<most)=true:=decide_eq_true h1
      have z4:decide (most<(n2:Int))=false:=decide_eq_false (fun h=>hcut ⟨h1,h⟩)
      have HCT:=Lib.hid ha'
      clear hcut ha'
      go_wp2_with fail
      go_quiet (fail)
      obtain ⟨wz,hwz⟩ : ∃ x,x=wT.drewN nq:=⟨_,rfl⟩
      rw [← hwz]
      have hbz:Below wT.heap.size wT wz:=by rw [hwz];exact below_drewN _ _
      have hdW:=HT.out.1.then_ hbz
      have htW:=HT.out.2.2.2.trans (Tn.of (fun b=>k b≠0∨b=al) hbz) (fun _ _ h=>h)
      have hAW:AnB wz al (fun b=>w.heap.size≤b∧k b=0) a':=by
       rw [HCT.out]
       exact (show AnB wT al (fun b=>w.heap.size≤b∧k b=0) a from ⟨Aa,na,ca,A2,n2,c2,A3,n3,c3,HT.out.2.1,HT.out.2.2.1⟩).tn (Tn.of (fun _=>False) hbz) (fun _ _ h=>h) (fun h=>h)
      have y3:=below_old hbz HY3.out (lt_of_block HY3.out)
      have y4:=below_old hbz HY4.out (lt_of_block HY4.out)
      have y5:=below_old hbz HY5.out (lt_of_block HY5.out)
      clear hwz hbz x1 c5
      have hS:=hdW.drew.setLs HC.out now h0
      rw [Pl.Dc.set_live HL.out (by omega)] at hS
      have HS:=Lib.hid hS
      obtain ⟨d0,d1,d2,d3,d4⟩:=hdW.cells
      have HK4:=Lib.hid (fun (wS:World) (ht:Tn (fun b=>k b=6) wz.drew wS)=>And.intro (cell0 (r:=[]) (ht.old (w:=wz.drew) y3 (by rw [HK.out.1.2.2.1];decide))) (And.intro (ht.cell (p:=⟨D,3,none⟩) (lt_of_block hdW.blk) (by rw [show (⟨D,3,none⟩ : Addr).block=D from rfl,hdW.kD];decide) |>.trans d3) (And.intro (cell0 (r:=[]) (ht.old (w:=wz.drew) y4 (by rw [HK.out.1.2.2.2.1];decide))) (cell0 (r:=[]) (ht.old (w:=wz.drew) y5 (by rw [HK.out.1.2.2.2.2];decide))))))
      have HDW:=Lib.hid (And.intro htW hAW)
      have x3:=cell0 (r:=[]) y3
      have x4:=cell0 (r:=[]) y4
      have x5:=cell0 (r:=[]) y5
      clear hS hdW htW hAW y3 y4 y5 d0 d1 d2 d4
      go_wp2_with fail
      go_region_held3 (fun w'=>w'.cell? ⟨b3,0,none⟩=some (.pointer (some ⟨D,0,none⟩))∧w'.cell? ⟨D,3,none⟩=some (.pointer (some ⟨ls,0,none⟩))∧w'.cell? ⟨b4,0,none⟩=some (.int .u32 c)∧w'.cell? ⟨b5,0,none⟩=some (.int .u64 now))
       (first | go_keep | (go_split_ands;exact HK4.out _ htS))
       (first | (go_at_call 64;refine (HS.out).mono ?_;rintro e wS ⟨rfl,hdS,htS⟩))
      have HF:=Lib.hid (show OwnD w D pa tx ls mk al k m (d.renewed c now,a') (.returned (.int .i64 0)) wS from by
       have hb:Tn (fun b=>k b≠0∨b=al) wz wS:=(Tn.of _ (below_drawn (Below.refl _ _))).trans (htS.more fun _ _ e=>Or.inl (by rw [e];decide)) (fun _ _ h=>h)
       exact ⟨k,m,by rw [HE0.out],hdS,Nat.le_add_right _ _,HDW.out.1.trans hb (fun _ _ h=>h),fun _ _=>rfl,fun _=>(HDW.out.2.tn (Tn.of (fun _=>False) (below_drawn (Below.refl _ _))) (fun _ _ h=>h) (fun h=>h)).tn htS (fun b hb e=>by rw [hb.2] at e;cases e) (by rw [HKA.out];decide)⟩)
      clear hdS htS x3 x4 x5 d3
      go_wp2_with fail
      rw [HR.out,HE.out]
      exact HF.out
     ·have z3:decide ((0:Int)<most)=false:=decide_eq_false h1
      have HCT:=Lib.hid ha'
      clear hcut ha'
      go_wp2_with fail
      go_quiet (fail)
      obtain ⟨wz,hwz⟩ : ∃ x,x=wT.drewN nq:=⟨_,rfl⟩
      rw [← hwz]
      have hbz:Below wT.heap.size wT wz:=by rw [hwz];exact below_drewN _ _
      have hdW:=HT.out.1.then_ hbz
      have htW:=HT.out.2.2.2.trans (Tn.of (fun b=>k b≠0∨b=al) hbz) (fun _ _ h=>h)
      have hAW:AnB wz al (fun b=>w.heap.size≤b∧k b=0) a':=by
       rw [HCT.out]
       exact (show AnB wT al (fun b=>w.heap.size≤b∧k b=0) a from ⟨Aa,na,ca,A2,n2,c2,A3,n3,c3,HT.out.2.1,HT.out.2.2.1⟩).tn (Tn.of (fun _=>False) hbz) (fun _ _ h=>h) (fun h=>h)
      have y3:=below_old hbz HY3.out (lt_of_block HY3.out)
      have y4:=below_old hbz HY4.out (lt_of_block HY4.out)
      have y5:=below_old hbz HY5.out (lt_of_block HY5.out)
      clear hwz hbz x1 c5
      have hS:=hdW.drew.setLs HC.out now h0
      rw [Pl.Dc.set_live HL.out (by omega)] at hS
      have HS:=Lib.hid hS
      obtain ⟨d0,d1,d2,d3,d4⟩:=hdW.cells
      have HK4:=Lib.hid (fun (wS:World) (ht:Tn (fun b=>k b=6) wz.drew wS)=>And.intro (cell0 (r:=[]) (ht.old (w:=wz.drew) y3 (by rw [HK.out.1.2.2.1];decide))) (And.intro (ht.cell (p:=⟨D,3,none⟩) (lt_of_block hdW.blk) (by rw [show (⟨D,3,none⟩ : Addr).block=D from rfl,hdW.kD];decide) |>.trans d3) (And.intro (cell0 (r:=[]) (ht.old (w:=wz.drew) y4 (by rw [HK.out.1.2.2.2.1];decide))) (cell0 (r:=[]) (ht.old (w:=wz.drew) y5 (by rw [HK.out.1.2.2.2.2];decide))))))
      have HDW:=Lib.hid (And.intro htW hAW)
      have x3:=cell0 (r:=[]) y3
      have x4:=cell0 (r:=[]) y4
      have x5:=cell0 (r:=[]) y5
      clear hS hdW htW hAW y3 y4 y5 d0 d1 d2 d4
      go_wp2_with fail
      go_region_held3 (fun w'=>w'.cell? ⟨b3,0,none⟩=some (.pointer (some ⟨D,0,none⟩))∧w'.cell? ⟨D,3,none⟩=some (.pointer (some ⟨ls,0,none⟩))∧w'.cell? ⟨b4,0,none⟩=some (.int .u32 c)∧w'.cell? ⟨b5,0,none⟩=some (.int .u64 now))
       (first | go_keep | (go_split_ands;exact HK4.out _ htS))
       (first | (go_at_call 64;refine (HS.out).mono ?_;rintro e wS ⟨rfl,hdS,htS⟩))
      have HF:=Lib.hid (show OwnD w D pa tx ls mk al k m (d.renewed c now,a') (.returned (.int .i64 0)) wS from by
       have hb:Tn (fun b=>k b≠0∨b=al) wz wS:=(Tn.of _ (below_drawn (Below.refl _ _))).trans (htS.more fun _ _ e=>Or.inl (by rw [e];decide)) (fun _ _ h=>h)
       exact ⟨k,m,by rw [HE0.out],hdS,Nat.le_add_right _ _,HDW.out.1.trans hb (fun _ _ h=>h),fun _ _=>rfl,fun _=>(HDW.out.2.tn (Tn.of (fun _=>False) (below_drawn (Below.refl _ _))) (fun _ _ h=>h) (fun h=>h)).tn htS (fun b hb e=>by rw [hb.2] at e;cases e) (by rw [HKA.out];decide)⟩)
      clear hdS htS x3 x4 x5 d3
      go_wp2_with fail
      rw [HR.out,HE.out]
      exact HF.out
   ·have z8:decide ((rev:Int)<(fr:Int))=false:=decide_eq_false (by omega)
    have z9:decide ((fr:Int) > (rev:Int))=false:=decide_eq_false (by omega)
    have hTL:=tell_ops hq.drew (HAQ.out.then_ (below_drawn (Below.refl _ _))) rev (by rw [← hfr];omega) (by have h9:=HR9.out;omega) 0 0
    rw [show (⟨0,0,false,[],d.later rev,[]⟩ : Pl.An)=a by rw [ha];unfold Pl.Dc.tells;rw [if_neg HR9.out,if_neg (by rw [← hfr];simp [hf])]] at hTL
    have HTL:=Lib.hid hTL
    clear hTL hfr ha hq y2 y3
    go_wp2_with fail
    go_region_held3 (fun w'=>w'.cell? ⟨b2,0,none⟩=some (.int .u64 (rev:Int))∧w'.cell? ⟨b3,0,none⟩=some (.pointer (some ⟨D,0,none⟩)))
     (first | go_keep | (go_split_ands;exact HK9.out _ htT))
     (first | (go_at_call 26;refine HFR.out.mono ?_;rintro e wF ⟨rfl,rfl⟩) | (go_at_call 66;refine HTL.out.mono ?_;rintro e wT ⟨rfl,hbT,htT⟩))
    obtain ⟨Aa,na,ca,A2,n2,c2,A3,n3,c3,hAT,hRT⟩:=hbT
    have hn2:n2=a.ops.length:=by
     obtain ⟨L,hL,hLE⟩:=hRT.ops
     rw [← hLE,List.length_map,hL.1.len]
    have HN2:=Lib.hid hn2
    have hdT:=(HH.out.then_ HBQ.out).drew.tn htT (fun b hb e=>hb (by rw [e];exact HKA.out))
    have hsz:=HBQ.out.size
    have hRW:=hRT.more (G:=fun b=>w.heap.size≤b∧k b=0) (fun b hb=>⟨Nat.le_trans hsz hb.1,box_zero k b HH.out.lt (Nat.le_trans hsz hb.1)⟩)
    have HT:=Lib.hid (And.intro hdT (And.intro hAT (And.intro hRW (show Tn (fun b=>k b≠0∨b=al) w wT from (Tn.of _ HBQ.out).trans ((Tn.of _ (below_drawn (Below.refl _ _))).trans (htT.more fun _ _ e=>Or.inr e) (fun _ _ h=>h)) (fun _ _ h=>h)))))
    have HT1:=Lib.hid (htT.old (w:=wq.drew) (below_old HBQ.out HX.out.1 (lt_of_block HX.out.1)) (fun e=>HK.out.2 (.inl e)))
    have x1:=cell0 (r:=[]) (htT.old (w:=wq.drew) (below_old HBQ.out HX.out.1 (lt_of_block HX.out.1)) (fun e=>HK.out.2 (.inl e)))
    have HY3:=Lib.hid (htT.old (w:=wq.drew) (below_old HBQ.out HX.out.2.2.1 (lt_of_block HX.out.2.2.1)) (fun e=>HK.out.2 (.inr (.inr (.inl e)))))
    have HY4:=Lib.hid (htT.old (w:=wq.drew) (below_old HBQ.out HX.out.2.2.2.1 (lt_of_block HX.out.2.2.2.1)) (fun e=>HK.out.2 (.inr (.inr (.inr (.inl e))))))
    have HY5:=Lib.hid (htT.old (w:=wq.drew) (below_old HBQ.out HX.out.2.2.2.2 (lt_of_block HX.out.2.2.2.2)) (fun e=>HK.out.2 (.inr (.inr (.inr (.inr e))))))
    obtain ⟨c0,c1,c2',c3',c4,c5,c6⟩:=hAT.cells
    have HA0:=Lib.hid (show a.e=0 by rw [HAE.out];unfold Pl.Dc.tells;rw [if_neg HR9.out];split <;> rfl)
    have hFE:d.fetchF c rev most now=(d.renewed c now,{ a with ops:=if most=0 then a.ops else a.ops.take most.toNat }):=by
     unfold Pl.Dc.fetchF
     rw [if_neg (by omega),if_neg HR9.out,← HAE.out]
    have HFE:=Lib.hid hFE
    clear hn2 hdT hsz hRW htT hRT hAT hFE HTL HFR HK9 HAQ x2 c0 c1 c2' c3' c4 c6
    by_cases hcut:0<most∧most<(n2:Int)
    ·obtain ⟨p,hp⟩ : ∃ p:Nat,(p:Int)=most:=⟨most.toNat,by omega⟩
     subst hp
     have hp0:0<p:=by omega
     have hpn:p<n2:=by omega
     have hle:n2≤c2:=by
      obtain ⟨L,hL,_⟩:=HT.out.2.2.1.ops
      exact hL.1.le
     have sC:=slice_capO A2 n2 c2 p (by omega)
     have z3:decide ((0:Int)<(p:Int))=true:=decide_eq_true (by omega)
     have z4:decide ((p:Int)<(n2:Int))=true:=decide_eq_true (by omega)
     have z5:(0:Int)<(p:Int):=by omega
     have z6:(p:Int)<(n2:Int):=by omega
     have z7:decide (0<p)=true:=decide_eq_true hp0
     have z8':decide (p<n2)=true:=decide_eq_true hpn
     have HPN:=Lib.hid (And.intro hp0 hpn)
     have HY1:=Lib.hid (show wT.heap[b1]?=some (.cells #[.int .i64 (p:Int)] 3 (0,0)) from HT1.out)
     clear hcut hle hp0 hpn HT1
     go_wp2_with fail
     go_quiet (fail)
     obtain ⟨wz,hwz⟩ : ∃ x,x=wT.drewN nq:=⟨_,rfl⟩
     rw [← hwz]
     have hbz:Below wT.heap.size wT wz:=by rw [hwz];exact below_drewN _ _
     have hAz:=HT.out.2.1.then_ hbz
     clear x1 c5
     have x1:=cell0 (r:=[]) (below_old hbz HY1.out (lt_of_block HY1.out))
     obtain ⟨c0,c1,c2',c3',c4,c5,c6⟩:=hAz.cells
     have g7:=hAz.frozen
     have HBZ:=Lib.hid hbz
     clear hwz hbz hAz c0 c1 c2' c3' c4 c6
     go_wp2_with fail
     go_region
     obtain ⟨wy,hwy⟩ : ∃ x,x=(wz.setCell ⟨al,5,none⟩ (.slice A2 p p)).drew:=⟨_,rfl⟩
     rw [← hwy]
     have htY:Tn (fun b=>b=al) wz wy:=by rw [hwy];exact ((Tn.refl (fun b=>b=al) wz).set_ (p:=⟨al,5,none⟩) (Or.inr rfl) _).drew
     obtain ⟨a',ha'⟩ : ∃ a':Pl.An,a'={ a with ops:=a.ops.take p }:=⟨_,rfl⟩
     have HE:=Lib.hid (show d.fetchF c rev (p:Int) now=(d.renewed c now,a') by rw [HFE.out,ha',if_neg (by omega),Int.toNat_natCast])
     have HE0:=Lib.hid (show a'.e=0 by rw [ha'];exact HA0.out)
     have hdW:=(HT.out.1.then_ HBZ.out).tn htY (fun b hb e=>hb (by rw [e];exact HKA.out))
     have htW:=HT.out.2.2.2.trans ((Tn.of (fun b=>k b≠0∨b=al) HBZ.out).trans (htY.more fun _ _ e=>Or.inr e) (fun _ _ h=>h)) (fun _ _ h=>h)
     have hAW:AnB wy al (fun b=>w.heap.size≤b∧k b=0) a':=by
      have hAz:=HT.out.2.1.then_ HBZ.out
      have hRY:=(HT.out.2.2.1.tn (Tn.of (fun _=>False) HBZ.out) (fun _ _ h=>h)).tn htY (fun b hb e=>by have:=HA.out.lt;omega)
      obtain ⟨L,hL,hLE⟩:=hRY.ops
      have hU:=Rws.upto encO_len hL.1 (Nat.le_of_lt HPN.out.2)
      refine ⟨Aa,na,ca,A2,p,p,A3,n3,c3,?_,⟨?_,⟨L.take p,⟨⟨hU.1,Nat.le_refl _,Nat.le_trans hU.2.1 hU.2.2.1,fun e=>by have:=hU.2.2.2.1 e;have:=hU.2.1;omega,hU.2.2.2.2⟩,fun h0 ad e=>hL.2.1 (Nat.lt_trans h0 HPN.out.2) ad e,fun o ho=>hL.2.2 o (List.mem_of_mem_take ho)⟩,?_⟩,?_⟩⟩
      ·have:=blk_set (i:=5) hAz (.slice A2 p p)
       simp only [List.setIfInBounds_toArray,List.set_cons_succ,List.set_cons_zero] at this
       rw [hwy,ha']
       exact this
      ·rw [ha'];exact hRY.text
      ·rw [ha',List.map_take,hLE]
      ·rw [ha'];exact hRY.seats
     have y3:=htY.old (w:=wz) (below_old HBZ.out HY3.out (lt_of_block HY3.out)) (fun e=>HK.out.2 (.inr (.inr (.inl e))))
     have y4:=htY.old (w:=wz) (below_old HBZ.out HY4.out (lt_of_block HY4.out)) (fun e=>HK.out.2 (.inr (.inr (.inr (.inl e)))))
     have y5:=htY.old (w:=wz) (below_old HBZ.out HY5.out (lt_of_block HY5.out)) (fun e=>HK.out.2 (.inr (.inr (.inr (.inr e)))))
     clear hwy htY ha' x1 c5 g7 sC z7 z8'
     have hS:=hdW.drew.setLs HC.out now h0
     rw [Pl.Dc.set_live HL.out (by omega)] at hS
     have HS:=Lib.hid hS
     obtain ⟨d0,d1,d2,d3,d4⟩:=hdW.cells
     have HK4:=Lib.hid (fun (wS:World) (ht:Tn (fun b=>k b=6) wy.drew wS)=>And.intro (cell0 (r:=[]) (ht.old (w:=wy.drew) y3 (by rw [HK.out.1.2.2.1];decide))) (And.intro (ht.cell (p:=⟨D,3,none⟩) (lt_of_block hdW.blk) (by rw [show (⟨D,3,none⟩ : Addr).block=D from rfl,hdW.kD];decide) |>.trans d3) (And.intro (cell0 (r:=[]) (ht.old (w:=wy.drew) y4 (by rw [HK.out.1.2.2.2.1];decide))) (cell0 (r:=[]) (ht.old (w:=wy.drew) y5 (by rw [HK.out.1.2.2.2.2];decide))))))
     have HDW:=Lib.hid (And.intro htW hAW)
     have x3:=cell0 (r:=[]) y3
     have x4:=cell0 (r:=[]) y4
     have x5:=cell0 (r:=[]) y5
     clear hS hdW htW hAW y3 y4 y5 d0 d1 d2 d4
     go_wp2_with fail
     go_region_held3 (fun w'=>w'.cell? ⟨b3,0,none⟩=some (.pointer (some ⟨D,0,none⟩))∧w'.cell? ⟨D,3,none⟩=some (.pointer (some ⟨ls,0,none⟩))∧w'.cell? ⟨b4,0,none⟩=some (.int .u32 c)∧w'.cell? ⟨b5,0,none⟩=some (.int .u64 now))
      (first | go_keep | (go_split_ands;exact HK4.out _ htS))
      (first | (go_at_call 64;refine (HS.out).mono ?_;rintro e wS ⟨rfl,hdS,htS⟩))
     have HF:=Lib.hid (show OwnD w D pa tx ls mk al k m (d.renewed c now,a') (.returned (.int .i64 0)) wS from by
      have hb:Tn (fun b=>k b≠0∨b=al) wy wS:=(Tn.of _ (below_drawn (Below.refl _ _))).trans (htS.more fun _ _ e=>Or.inl (by rw [e];decide)) (fun _ _ h=>h)
      exact ⟨k,m,by rw [HE0.out],hdS,Nat.le_add_right _ _,HDW.out.1.trans hb (fun _ _ h=>h),fun _ _=>rfl,fun _=>(HDW.out.2.tn (Tn.of (fun _=>False) (below_drawn (Below.refl _ _))) (fun _ _ h=>h) (fun h=>h)).tn htS (fun b hb e=>by rw [hb.2] at e;cases e) (by rw [HKA.out];decide)⟩)
     clear hdS htS x3 x4 x5 d3
     go_wp2_with fail
     rw [HR.out,HE.out]
     exact HF.out
    ·obtain ⟨a',ha'⟩ : ∃ a':Pl.An,a'=a:=⟨_,rfl⟩
     have HE:=Lib.hid (show d.fetchF c rev most now=(d.renewed c now,a') by
      rw [HFE.out,ha']
      have h1:=HN2.out
      by_cases h:most=0
      ·rw [if_pos h]
      ·rw [if_neg h,List.take_of_length_le (by omega)])
     have HE0:=Lib.hid (show a'.e=0 by rw [ha'];exact HA0.out)
     by_cases h1:0<most
     ·have z3:decide ((0:Int)<most)=true:=decide_eq_true h1
      have z4:decide (most<(n2:Int))=false:=decide_eq_false (fun h=>hcut ⟨h1,h⟩)
      have HCT:=Lib.hid ha'
      clear hcut ha'
      go_wp2_with fail
      go_quiet (fail)
      obtain ⟨wz,hwz⟩ : ∃ x,x=wT.drewN nq:=⟨_,rfl⟩
      rw [← hwz]
      have hbz:Below wT.heap.size wT wz:=by rw [hwz];exact below_drewN _ _
      have hdW:=HT.out.1.then_ hbz
      have htW:=HT.out.2.2.2.trans (Tn.of (fun b=>k b≠0∨b=al) hbz) (fun _ _ h=>h)
      have hAW:AnB wz al (fun b=>w.heap.size≤b∧k b=0) a':=by
       rw [HCT.out]
       exact (show AnB wT al (fun b=>w.heap.size≤b∧k b=0) a from ⟨Aa,na,ca,A2,n2,c2,A3,n3,c3,HT.out.2.1,HT.out.2.2.1⟩).tn (Tn.of (fun _=>False) hbz) (fun _ _ h=>h) (fun h=>h)
      have y3:=below_old hbz HY3.out (lt_of_block HY3.out)
      have y4:=below_old hbz HY4.out (lt_of_block HY4.out)
      have y5:=below_old hbz HY5.out (lt_of_block HY5.out)
      clear hwz hbz x1 c5
      have hS:=hdW.drew.setLs HC.out now h0
      rw [Pl.Dc.set_live HL.out (by omega)] at hS
      have HS:=Lib.hid hS
      obtain ⟨d0,d1,d2,d3,d4⟩:=hdW.cells
      have HK4:=Lib.hid (fun (wS:World) (ht:Tn (fun b=>k b=6) wz.drew wS)=>And.intro (cell0 (r:=[]) (ht.old (w:=wz.drew) y3 (by rw [HK.out.1.2.2.1];decide))) (And.intro (ht.cell (p:=⟨D,3,none⟩) (lt_of_block hdW.blk) (by rw [show (⟨D,3,none⟩ : Addr).block=D from rfl,hdW.kD];decide) |>.trans d3) (And.intro (cell0 (r:=[]) (ht.old (w:=wz.drew) y4 (by rw [HK.out.1.2.2.2.1];decide))) (cell0 (r:=[]) (ht.old (w:=wz.drew) y5 (by rw [HK.out.1.2.2.2.2];decide))))))
      have HDW:=Lib.hid (And.intro htW hAW)
      have x3:=cell0 (r:=[]) y3
      have x4:=cell0 (r:=[]) y4
      have x5:=cell0 (r:=[]) y5
      clear hS hdW htW hAW y3 y4 y5 d0 d1 d2 d4
      go_wp2_with fail
      go_region_held3 (fun w'=>w'.cell? ⟨b3,0,none⟩=some (.pointer (some ⟨D,0,none⟩))∧w'.cell? ⟨D,3,none⟩=some (.pointer (some ⟨ls,0,none⟩))∧w'.cell? ⟨b4,0,none⟩=some (.int .u32 c)∧w'.cell? ⟨b5,0,none⟩=some (.int .u64 now))
       (first | go_keep | (go_split_ands;exact HK4.out _ htS))
       (first | (go_at_call 64;refine (HS.out).mono ?_;rintro e wS ⟨rfl,hdS,htS⟩))
      have HF:=Lib.hid (show OwnD w D pa tx ls mk al k m (d.renewed c now,a') (.returned (.int .i64 0)) wS from by
       have hb:Tn (fun b=>k b≠0∨b=al) wz wS:=(Tn.of _ (below_drawn (Below.refl _ _))).trans (htS.more fun _ _ e=>Or.inl (by rw [e];decide)) (fun _ _ h=>h)
       exact ⟨k,m,by rw [HE0.out],hdS,Nat.le_add_right _ _,HDW.out.1.trans hb (fun _ _ h=>h),fun _ _=>rfl,fun _=>(HDW.out.2.tn (Tn.of (fun _=>False) (below_drawn (Below.refl _ _))) (fun _ _ h=>h) (fun h=>h)).tn htS (fun b hb e=>by rw [hb.2] at e;cases e) (by rw [HKA.out];decide)⟩)
      clear hdS htS x3 x4 x5 d3
      go_wp2_with fail
      rw [HR.out,HE.out]
      exact HF.out
     ·have z3:decide ((0:Int)<most)=false:=decide_eq_false h1
      have HCT:=Lib.hid ha'
      clear hcut ha'
      go_wp2_with fail
      go_quiet (fail)
      obtain ⟨wz,hwz⟩ : ∃ x,x=wT.drewN nq:=⟨_,rfl⟩
      rw [← hwz]
      have hbz:Below wT.heap.size wT wz:=by rw [hwz];exact below_drewN _ _
      have hdW:=HT.out.1.then_ hbz
      have htW:=HT.out.2.2.2.trans (Tn.of (fun b=>k b≠0∨b=al) hbz) (fun _ _ h=>h)
      have hAW:AnB wz al (fun b=>w.heap.size≤b∧k b=0) a':=by
       rw [HCT.out]
       exact (show AnB wT al (fun b=>w.heap.size≤b∧k b=0) a from ⟨Aa,na,ca,A2,n2,c2,A3,n3,c3,HT.out.2.1,HT.out.2.2.1⟩).tn (Tn.of (fun _=>False) hbz) (fun _ _ h=>h) (fun h=>h)
      have y3:=below_old hbz HY3.out (lt_of_block HY3.out)
      have y4:=below_old hbz HY4.out (lt_of_block HY4.out)
      have y5:=below_old hbz HY5.out (lt_of_block HY5.out)
      clear hwz hbz x1 c5
      have hS:=hdW.drew.setLs HC.out now h0
      rw [Pl.Dc.set_live HL.out (by omega)] at hS
      have HS:=Lib.hid hS
      obtain ⟨d0,d1,d2,d3,d4⟩:=hdW.cells
      have HK4:=Lib.hid (fun (wS:World) (ht:Tn (fun b=>k b=6) wz.drew wS)=>And.intro (cell0 (r:=[]) (ht.old (w:=wz.drew) y3 (by rw [HK.out.1.2.2.1];decide))) (And.intro (ht.cell (p:=⟨D,3,none⟩) (lt_of_block hdW.blk) (by rw [show (⟨D,3,none⟩ : Addr).block=D from rfl,hdW.kD];decide) |>.trans d3) (And.intro (cell0 (r:=[]) (ht.old (w:=wz.drew) y4 (by rw [HK.out.1.2.2.2.1];decide))) (cell0 (r:=[]) (ht.old (w:=wz.drew) y5 (by rw [HK.out.1.2.2.2.2];decide))))))
      have HDW:=Lib.hid (And.intro htW hAW)
      have x3:=cell0 (r:=[]) y3
      have x4:=cell0 (r:=[]) y4
      have x5:=cell0 (r:=[]) y5
      clear hS hdW htW hAW y3 y4 y5 d0 d1 d2 d4
      go_wp2_with fail
      go_region_held3 (fun w'=>w'.cell? ⟨b3,0,none⟩=some (.pointer (some ⟨D,0,none⟩))∧w'.cell? ⟨D,3,none⟩=some (.pointer (some ⟨ls,0,none⟩))∧w'.cell? ⟨b4,0,none⟩=some (.int .u32 c)∧w'.cell? ⟨b5,0,none⟩=some (.int .u64 now))
       (first | go_keep | (go_split_ands;exact HK4.out _ htS))
       (first | (go_at_call 64;refine (HS.out).mono ?_;rintro e wS ⟨rfl,hdS,htS⟩))
      have HF:=Lib.hid (show OwnD w D pa tx ls mk al k m (d.renewed c now,a') (.returned (.int .i64 0)) wS from by
       have hb:Tn (fun b=>k b≠0∨b=al) wz wS:=(Tn.of _ (below_drawn (Below.refl _ _))).trans (htS.more fun _ _ e=>Or.inl (by rw [e];decide)) (fun _ _ h=>h)
       exact ⟨k,m,by rw [HE0.out],hdS,Nat.le_add_right _ _,HDW.out.1.trans hb (fun _ _ h=>h),fun _ _=>rfl,fun _=>(HDW.out.2.tn (Tn.of (fun _=>False) (below_drawn (Below.refl _ _))) (fun _ _ h=>h) (fun h=>h)).tn htS (fun b hb e=>by rw [hb.2] at e;cases e) (by rw [HKA.out];decide)⟩)
      clear hdS htS x3 x4 x5 d3
      go_wp2_with fail
      rw [HR.out,HE.out]
      exact HF.out
end
end Go.Proofs.YtlgdcelgkiipaaaGreat
