/-
  Edit's own part. Conditions: those that it states.
-/
import Derived.Test.YtlgdcelgkiipaaaGreatOc36
import Derived.Test.YtlgdcelgkiipaaaGreatOc37
import Derived.Test.YtlgdcelgkiipaaaGreatOc01
set_option maxRecDepth 100000
set_option linter.unusedVariables false
namespace Go.Proofs.YtlgdcelgkiipaaaGreat
open Go.RowKit
open Pl (Un)
namespace Pl
namespace Dc
def editF (x y:Int) (base:Nat) (row:List Un) (t:Int) (d:Dc):Dc × An :=
 if d.editE x y base row≠0 then (d,fails (d.editE x y base row)) else ((d.behind x y (d.editRow base row)).renewed x t,⟨0,0,false,[],d.later base ++ [d.newOp x y (d.editRow base row)],[]⟩)
theorem later_behind (d:Dc) (x y:Int) (row:List Un) {base:Nat} (h:base≤d.now):(d.behind x y row).later base=d.later base ++ [d.newOp x y row]:=by
 show (d.P ++ [d.newOp x y row]).drop (base - d.fr)=d.P.drop (base - d.fr) ++ [d.newOp x y row]
 rw [List.drop_append_of_le_length]
 unfold now at h
 omega
end Dc
end Pl
section
variable {w w':World} {D pa tx ls mk m al:Nat} {k:Nat→Nat} {N:Int} {d:Pl.Dc}
theorem OwnD.ops {wC wS w9:World} {kC:Nat→Nat} {d3:Pl.Dc} {m2:Nat} {A:Option Addr} {n c:Nat} {P:List Pl.Op} (hk:∀ b,k b≠0→b<w.heap.size) (hal:k al=0) (hal2:al<w.heap.size) (hkC:∀ b,kC b≠0→b<wC.heap.size) (hm:m2≤m + 256) (hv:Mv k w kC wC)
  (hA:AnAt wC al 0 0 false none 0 0 none 0 0 none 0 0) (hbS:Below wC.heap.size wC wS) (hoS:RowO wS wC.heap.size (.slice A n c) P) (h9:Tn (fun b=>kC b=6) (wS.setCell ⟨al,5,none⟩ (.slice A n c)) w9) (hd9:DocM w9 D pa tx ls mk kC d3.cs.length d3 m2) :
  OwnD w D pa tx ls mk al k m (d3,⟨0,0,false,[],P,[]⟩) (.returned (.int .i64 0)) w9:=by
 have t2:Tn (fun b=>b=al) wS (wS.setCell ⟨al,5,none⟩ (.slice A n c)):=(Tn.refl (fun b=>b=al) wS).set_ (p:=⟨al,5,none⟩) (Or.inr rfl) _
 have hkal:kC al=0:=(hv.eq al hal2).trans hal
 have hs:=hv.tn.size
 have h3:AnAt (wS.setCell ⟨al,5,none⟩ (.slice A n c)) al 0 0 false none 0 0 A n c none 0 0:=blk_set (i:=5) (hA.then_ hbS) (.slice A n c)
 have h4:=h3.tn h9 (fun e=>by rw [hkal] at e;cases e)
 have hz:∀ b,wC.heap.size≤b→kC b=0:=fun b hb=>by
  rcases Nat.eq_zero_or_pos (kC b) with h | h
  ·exact h
  ·have:=hkC b (by omega);omega
 obtain ⟨_,L,h5,h6⟩:=((hoS.tn t2 (fun b e=>by omega))).inF
 have h7:=(h5.tn h9 (fun b hb e=>by rw [hz b hb.1] at e;cases e)).more (G:=fun b=>w.heap.size≤b∧kC b=0) fun b hb=>⟨by omega,hz b hb.1⟩
 refine ⟨kC,m2,rfl,hd9,hm,?_,hv.eq,fun _=>⟨none,0,0,A,n,c,none,0,0,h4,⟨⟨Crs.none_ _ _,fun h=>absurd h (by decide)⟩,⟨L,h7,h6⟩,⟨Rws.none_ _ _ _,fun h=>absurd h (by decide)⟩⟩⟩⟩
 have hb':Tn (fun b=>k b≠0∨b=al) w wS:=(hv.tn.more fun b _ h=>.inl h).trans (Tn.of (fun b=>k b≠0∨b=al) hbS) (fun _ _ h=>h)
 refine (hb'.trans t2 (fun b _ h=>.inr h)).trans h9 fun b hb e=>.inl ?_
 rw [hv.eq b hb] at e
 rw [e];decide
def CmS (w0:World) (D pa tx ls mk:Nat) (k:Nat→Nat) (m:Nat) (dC:Pl.Dc) (br:Int) (a b c:Nat) (L:Nat→Bool) (w:World):Prop :=
 (L c=false→Below w0.heap.size w0 w)∧(L c=true→∃ wB,Below w0.heap.size w0 wB∧CommitR wB D pa tx ls mk k m dC br (.returned (.int .i64 br)) w)∧(L c=true→L b=true)∧(L b=true→L a=true)
def CmT (k:Nat→Nat) (_:Nat) (w w':World):Prop:=Tn (fun b=>k b≠0) w w'
theorem cmT_refl (k:Nat→Nat) (i:Nat) (w:World):CmT k i w w:=Tn.refl _ _
section
variable {w0:World} {dC:Pl.Dc} {br:Int} {a b c i:Nat} {L:Nat→Bool}
theorem CmS.begin (h:Below w0.heap.size w0 w):CmS w0 D pa tx ls mk k m dC br a b c (fun _=>false) w:=⟨fun _=>h,(fun e=>by cases e),(fun e=>by cases e),(fun e=>by cases e)⟩
theorem CmS.mv (h:CmS w0 D pa tx ls mk k m dC br a b c L w):∃ k',Mv k w0 k' w:=by
 cases hL:L c with
 | false=>exact ⟨k,Mv.of k (h.1 hL)⟩
 | true =>
  obtain ⟨wB,hb,k',m',_,_,_,hv⟩:=h.2.1 hL
  exact ⟨k',(Mv.of k hb).trans hv⟩
theorem CmS.no_b (h:CmS w0 D pa tx ls mk k m dC br a b c L w) (hL:L b=false):L c=false:=by
 cases e:L c with
 | false=>rfl
 | true=>have:=h.2.2.1 e;rw [hL] at this;cases this
theorem CmS.no_a (h:CmS w0 D pa tx ls mk k m dC br a b c L w) (hL:L a=false):L c=false:=by
 refine h.no_b ?_
 cases e:L b with
 | false=>rfl
 | true=>have:=h.2.2.2 e;rw [hL] at this;cases this
theorem up_mono {L:Nat→Bool} {i j:Nat} (h:L j=true):Rq.up L i j=true:=by simp [Rq.up,h]
theorem CmS.stay (h:CmS w0 D pa tx ls mk k m dC br a b c L w) (hi:i≠c∧i≠b):CmS w0 D pa tx ls mk k m dC br a b c (Rq.up L i) w:=by
 have e:Rq.up L i c=L c:=by simp [Rq.up,hi.1]
 have e2:Rq.up L i b=L b:=by simp [Rq.up,hi.2]
 unfold CmS
 rw [e,e2]
 exact ⟨h.1,h.2.1,h.2.2.1,fun hb=>up_mono (h.2.2.2 hb)⟩
theorem CmS.first (h:CmS w0 D pa tx ls mk k m dC br a b c L w) (hi:a≠c∧a≠b) (hL:L a=false) (hb:Below w.heap.size w w'):CmS w0 D pa tx ls mk k m dC br a b c (Rq.up L a) w':=by
 have h1:=h.no_a hL
 have e:Rq.up L a c=L c:=by simp [Rq.up,hi.1]
 have e2:Rq.up L a b=L b:=by simp [Rq.up,hi.2]
 unfold CmS
 rw [e,e2]
 exact ⟨fun _=>below_then (h.1 h1) hb,(fun e=>by rw [h1] at e;cases e),h.2.2.1,fun _=>by simp [Rq.up]⟩
theorem CmS.second (h:CmS w0 D pa tx ls mk k m dC br a b c L w) (hi:b≠c) (hL:L b=false) (ha:L a=true) (hb:Below w.heap.size w w'):CmS w0 D pa tx ls mk k m dC br a b c (Rq.up L b) w':=by
 have h1:=h.no_b hL
 have e:Rq.up L b c=L c:=by simp [Rq.up,hi]
 unfold CmS
 rw [e]
 exact ⟨fun _=>below_then (h.1 h1) hb,(fun e=>by rw [h1] at e;cases e),(fun e=>by rw [h1] at e;cases e),fun _=>up_mono ha⟩
theorem CmS.done (h:CmS w0 D pa tx ls mk k m dC br a b c L w) (hL:L c=false) (hb:L b=true) (hc:CommitR w D pa tx ls mk k m dC br (.returned (.int .i64 br)) w'):CmS w0 D pa tx ls mk k m dC br a b c (Rq.up L c) w' :=
 ⟨(fun e=>by simp [Rq.up] at e),(fun _=>⟨w,h.1 hL,hc⟩),(fun _=>up_mono hb),fun _=>up_mono (h.2.2.2 hb)⟩
end
def RwK (k:Nat→Nat) (RV:List RowV) (v:Value) (w:World):Prop:=∃ B dB,v=.slice B RV.length dB∧RowsV w B RV∧(∀ a,0<RV.length→B=some a→k a.block=0)∧∀ q ∈ RV,Apart (fun b=>k b≠0) q.A q.n
theorem RwK.tn {RV:List RowV} {v:Value} (h:RwK k RV v w) (ht:Tn (fun b=>k b≠0) w w'):RwK k RV v w':=by
 obtain ⟨B,dB,e,h1,h2,h3⟩:=h
 refine ⟨B,dB,e,fun h0=>?_,h2,h3⟩
 obtain ⟨g,eB,hg,hc⟩:=h1 h0
 refine ⟨g,eB,Nat.lt_of_lt_of_le hg ht.size,fun j hj=>⟨(ht.cell (p:=⟨g,j,none⟩) hg (fun hn=>hn (h2 ⟨g,0,none⟩ h0 eB))).trans (hc j hj).1,Rws.tn (hc j hj).2.1 ht (h3 _ ?_),(hc j hj).2.2⟩⟩
 rw [List.getD_eq_getElem?_getD,List.getElem?_eq_getElem hj]
 exact List.getElem_mem _
def UnK (k:Nat→Nat) (l:List Un) (v:Value) (w:World):Prop:=∃ A c B,v=.slice A l.length c∧OwnU w B (.slice A l.length c) l∧∀ b,k b≠0→b<B
theorem UnK.tn {l:List Un} {v:Value} (h:UnK k l v w) (ht:Tn (fun b=>k b≠0) w w'):UnK k l v w':=by
 obtain ⟨A,c,B,e,h1,h2⟩:=h
 refine ⟨A,c,B,e,OwnR.tn h1 ht fun g hg hn=>?_,h2⟩
 have:=(OwnR.lt h1 g hg).1
 have:=h2 g hn
 omega
set_option maxHeartbeats 4000000 in
theorem edit1_any (h:DocM w D pa tx ls mk k d.cs.length d m) (hok:d.Ok) {x y:Int} (hx:0≤x∧x<4294967296) (base:Nat) (hbase:base≤18446744073709551615) (now:Int) (h0:0≤now) (hnow:now≤1099511627776) (hlv:Pl.liveM d.L x now=true) (hA:AnAt w al 0 0 false none 0 0 none 0 0 none 0 0) (hka:k al=0) (hm:m + 256≤1073741824)
  (A:Option Addr) (n c:Nat) (row:List Un) (hu:Uns w w.heap.size A n c row) (hn:n≤1000) (b1 b2 b3 b4 b5:Nat)
  (e1:w.heap[b1]?=some (.cells #[.int .u32 x,.int .u64 y] 43 (0,0))) (e2:w.heap[b2]?=some (.cells #[.slice A n c] 29 (0,0))) (e3:w.heap[b3]?=some (.cells #[.pointer (some ⟨D,0,none⟩)] 23 (0,0)))
  (e4:w.heap[b4]?=some (.cells #[.int .u64 (base:Int)] 27 (0,0))) (e5:w.heap[b5]?=some (.cells #[.int .u64 now] 27 (0,0)))
  (hk:(k b1=0∧k b2=0∧k b3=0∧k b4=0∧k b5=0)∧¬ (b1=al∨b2=al∨b3=al∨b4=al∨b5=al)) :
  Calls Tryz.prog 68 #[.pointer (some ⟨al,0,none⟩),.pointer (some ⟨b1,0,none⟩),.pointer (some ⟨b2,0,none⟩),.pointer (some ⟨b3,0,none⟩),.pointer (some ⟨b4,0,none⟩),.pointer (some ⟨b5,0,none⟩)] w (OwnD w D pa tx ls mk al k m (d.editF x y base row now)):=by
 obtain ⟨R0,hR0⟩ : ∃ R0,R0=OwnD w D pa tx ls mk al k m (d.editF x y base row now):=⟨_,rfl⟩
 rw [← hR0]
 have HR0:=Lib.hid hR0
 have HH:=Lib.hid h
 have HO:=Lib.hid hok
 have HA:=Lib.hid hA
 have HX:=Lib.hid (And.intro e1 (And.intro e2 (And.intro e3 (And.intro e4 e5))))
 have HK:=Lib.hid hk
 have HKA:=Lib.hid hka
 have HL:=Lib.hid hlv
 have HXX:=Lib.hid hx
 have HU:=Lib.hid hu
 have HRL:=Lib.hid hu.len
 -- a part that tells an error
 have HBAD:=Lib.hid (fun (E:Int) (wE:World) (hE:E≠0) (he:d.editE x y base row=E) (hb:Below w.heap.size w wE)=>show R0 (.returned (.int .i64 E)) wE from by
  rw [hR0]
  have:d.editF x y base row now=(d,Pl.fails E):=by unfold Pl.Dc.editF;rw [he,if_pos hE]
  rw [this]
  exact OwnD.bad h al hE hb)
 obtain ⟨bad,hbad⟩ : ∃ bad,bad=decide (¬ ∀ u ∈ row,Pl.Mine x y u):=⟨_,rfl⟩
 have hCN:=containsG_any A n c row w hu 69 #[.pointer (some ⟨b1,0,none⟩)] (Pl.Mine x y) (fun args w=>by simp [go_sem]) (fun u w1 _ hb=>mayE_any u x y b1 w1 (below_old hb e1 (lt_of_block e1)))
 rw [← hbad] at hCN
 have HCN:=Lib.hid hCN
 have HBD:=Lib.hid hbad
 have x2:=cell0 (r:=[]) e2
 clear h hok hR0 hA e1 e2 e3 e4 e5 hk hka hlv hx hu hCN hbad
 go_enter Tryz.func68,Tryz.ntmps68
 go_wp2_with fail
 refine HCN.out.mono ?_
 rintro e w1 ⟨rfl,hb1⟩
 have HB1:=Lib.hid hb1
 clear hb1 HCN x2
 cases bad with
 | true =>
  go_wp2_with fail
  refine HBAD.out 1 w1 (by decide) ?_ HB1.out
  have h1:=of_decide_eq_true HBD.out.symm
  unfold Pl.Dc.editE
  refine if_pos ?_
  refine Classical.byContradiction fun hno=>h1 fun u hu=>?_
  have:=not_exists.1 hno u
  unfold Pl.Mine
  refine ⟨Classical.byContradiction fun h=>this ⟨hu,.inl h⟩,Classical.byContradiction fun h=>this ⟨hu,.inr (.inl h)⟩,Classical.byContradiction fun h=>this ⟨hu,.inr (.inr h)⟩⟩
 | false =>
  have hmine:∀ u ∈ row,Pl.Mine x y u:=Classical.byContradiction fun h=>of_decide_eq_false HBD.out.symm h
  have hno:¬ ∃ u ∈ row,¬ Pl.Okay u∨u.x≠x∨u.y≠y:=fun ⟨u,hu,hh⟩=>by
   have:=hmine u hu
   rcases hh with h | h | h
   ·exact h this.1
   ·exact h this.2.1
   ·exact h this.2.2
  have HM:=Lib.hid (And.intro hmine hno)
  clear hmine hno HBD
  have hq:=HH.out.then_ HB1.out
  obtain ⟨d0,d1,d2,d3,d4⟩:=hq.cells
  have x3:=cell0 (r:=[]) (below_old HB1.out HX.out.2.2.1 (lt_of_block HX.out.2.2.1))
  have x4:=cell0 (r:=[]) (below_old HB1.out HX.out.2.2.2.1 (lt_of_block HX.out.2.2.2.1))
  have HK3:=Lib.hid (fun (wE:World) (hb:Below w1.drew.heap.size w1.drew wE)=>And.intro ((hb.cell (p:=⟨b3,0,none⟩) (World.block_lt_of_cell? w1 _ x3)).trans x3) (And.intro ((hb.cell (p:=⟨D,1,none⟩) (World.block_lt_of_cell? w1 _ d1)).trans d1) ((hb.cell (p:=⟨b4,0,none⟩) (World.block_lt_of_cell? w1 _ x4)).trans x4)))
  obtain ⟨E,hE⟩ : ∃ E,E=(Pl.place d.fr d.P.length 0 base).2:=⟨_,rfl⟩
  by_cases hE0:E≠0
  ·have hS:=since_bad hq.drew.past base hbase E (by
    have:(Pl.place d.fr d.P.length 0 base).1=0:=by
     rw [hE] at hE0
     unfold Pl.place at hE0 ⊢
     split
     ·rfl
     ·split
      ·rfl
      ·rename_i h1 h2;rw [if_neg h1,if_neg h2] at hE0;exact absurd rfl hE0
    rw [← this,hE]) hE0
   have HS:=Lib.hid hS
   have HE:=Lib.hid hE
   clear hq hE d0 d2 d3 d4 hS
   go_wp2_with fail
   go_region_held3 (fun w'=>w'.cell? ⟨b3,0,none⟩=some (.pointer (some ⟨D,0,none⟩))∧w'.cell? ⟨D,1,none⟩=some (.pointer (some ⟨pa,0,none⟩))∧w'.cell? ⟨b4,0,none⟩=some (.int .u64 (base:Int)))
    (first | go_keep | (go_split_ands;exact HK3.out _ hbS))
    (first | (go_at_call 72;refine HS.out.mono ?_;rintro e wS ⟨rfl,hbS⟩))
   have z1:(E != 0)=true:=by simpa using hE0
   have z2:decide (E≠0)=true:=decide_eq_true hE0
   have HBS:=Lib.hid (below_then HB1.out (below_drew hbS))
   clear hbS
   go_wp2_with fail
   refine HBAD.out E _ hE0 ?_ HBS.out
   unfold Pl.Dc.editE
   rw [if_neg HM.out.2,← HE.out,if_pos hE0]
  ·have hE1:(Pl.place d.fr d.P.length 0 base).2=0:=by rw [← hE];exact Decidable.not_not.1 hE0
   obtain ⟨hp1,hp2⟩:=Pl.place_zero.1 hE1
   have hS:=since_ok hq.drew.past (base - d.fr) base (by omega) (by omega)
   have HPL:=Lib.hid hE1
   have HP12:=Lib.hid (And.intro hp1 hp2)
   obtain ⟨P0,hP0⟩ : ∃ P0,P0=d.P.drop (base - d.fr):=⟨_,rfl⟩
   rw [← hP0] at hS
   have HS:=Lib.hid hS
   have HP0:=Lib.hid (And.intro hP0 hP0)
   clear hq hE hE0 hE1 hp1 hp2 hP0 hS d0 d2 d3 d4 E
   go_wp2_with fail
   go_region_held3 (fun w'=>w'.cell? ⟨b3,0,none⟩=some (.pointer (some ⟨D,0,none⟩))∧w'.cell? ⟨D,1,none⟩=some (.pointer (some ⟨pa,0,none⟩))∧w'.cell? ⟨b4,0,none⟩=some (.int .u64 (base:Int)))
    (first | go_keep | (go_split_ands;exact HK3.out _ hbS))
    (first | (go_at_call 72;refine HS.out.mono ?_;rintro e wS ⟨A6,c6,rfl,hoS,hbS⟩))
   have HBS:=Lib.hid (below_then HB1.out (below_drew hbS))
   have HOS:=Lib.hid hoS
   have HXW:=Lib.hid (fun (W:World) (hb:Below w.heap.size w W)=>And.intro (And.intro (cell0 (r:=[.int .u64 y]) (below_old hb HX.out.1 (lt_of_block HX.out.1))) (cell1 (r:=[]) (below_old hb HX.out.1 (lt_of_block HX.out.1)))) (And.intro (cell0 (r:=[]) (below_old hb HX.out.2.1 (lt_of_block HX.out.2.1))) (And.intro (cell0 (r:=[]) (below_old hb HX.out.2.2.1 (lt_of_block HX.out.2.2.1))) (And.intro (cell0 (r:=[]) (below_old hb HX.out.2.2.2.1 (lt_of_block HX.out.2.2.2.1))) (HH.out.then_ hb).cells))))
   clear hbS hoS HK3 HS x3 x4 d1
   obtain ⟨⟨x0,x1⟩,x2,x3,x4,d0,d1,d2,d3,d4⟩:=HXW.out wS HBS.out
   by_cases hn2:256<n
   ·have z1:decide ((n:Int) > 256)=true:=decide_eq_true (by omega)
    have z2:decide ((256:Int)<(n:Int))=true:=decide_eq_true (by omega)
    go_wp2_with fail
    refine HBAD.out 35 _ (by decide) ?_ HBS.out
    unfold Pl.Dc.editE
    rw [if_neg HM.out.2,if_neg (by rw [HPL.out];decide),if_pos (by rw [HRL.out];exact hn2)]
   ·have z1:decide ((n:Int) > 256)=false:=decide_eq_false (by omega)
    have z2:decide ((256:Int)<(n:Int))=false:=decide_eq_false (by omega)
    obtain ⟨lo,hlo⟩ : ∃ lo,lo=d.long base:=⟨_,rfl⟩
    have hLE:=length_ok (HH.out.then_ HBS.out).drew.past (base - d.fr) base (by have:=HP12.out;omega) (by have:=HP12.out;omega)
    rw [show d.n + Pl.total (d.P.take (base - d.fr))=lo from hlo.symm] at hLE
    have HLE:=Lib.hid hLE
    have hlo4:0≤lo∧lo≤4096:=by rw [hlo];exact HO.out.p.top _ (by have:=HP12.out;omega)
    have HLO:=Lib.hid hlo
    clear hLE hlo d0 d2 d3 d4
    go_wp2_with fail
    go_region_held3 (fun w'=>w'.cell? ⟨b3,0,none⟩=some (.pointer (some ⟨D,0,none⟩))∧w'.cell? ⟨D,1,none⟩=some (.pointer (some ⟨pa,0,none⟩))∧w'.cell? ⟨b4,0,none⟩=some (.int .u64 (base:Int)))
     (first | go_keep | (go_split_ands;exact ⟨(HXW.out _ (below_then HBS.out (below_drew hbL))).2.2.1,(HXW.out _ (below_then HBS.out (below_drew hbL))).2.2.2.2.2.1,(HXW.out _ (below_then HBS.out (below_drew hbL))).2.2.2.1⟩))
     (first | (go_at_call 73;refine HLE.out.mono ?_;rintro e wL ⟨rfl,hbL⟩))
    have HBL:=Lib.hid (below_then HBS.out (below_drew hbL))
    have HOL:=Lib.hid (HOS.out.then_ (below_drew hbL))
    clear hbL x0 x1 x2 x3 x4 d1 HLE
    obtain ⟨⟨x0,x1⟩,x2,x3,x4,d0,d1,d2,d3,d4⟩:=HXW.out wL HBL.out
    go_wp2_with fail
    have hLG:=long_any A n c row lo wL (Rws.then_ HU.out HBL.out) (by omega) (by omega)
    obtain ⟨E2,hE2⟩ : ∃ E2,E2=(Pl.longL row lo).2:=⟨_,rfl⟩
    rw [← hE2] at hLG
    have HE2:=Lib.hid hE2
    refine hLG.mono ?_
    rintro e wG ⟨rfl,hbG⟩
    have HBG:=Lib.hid (below_then HBL.out hbG)
    have HOG:=Lib.hid (HOL.out.then_ hbG)
    clear hbG hLG hE2 x0 x1 x2 x3 x4 d0 d1 d2 d3 d4
    by_cases hE20:E2≠0
    ·have z3:(E2 != 0)=true:=by simpa using hE20
     have z4:decide (E2≠0)=true:=decide_eq_true hE20
     go_wp2_with fail
     refine HBAD.out E2 _ hE20 ?_ HBG.out
     unfold Pl.Dc.editE
     rw [if_neg HM.out.2,if_neg (by rw [HPL.out];decide),if_neg (by rw [HRL.out];exact hn2),← HLO.out,← HE2.out,if_pos hE20]
    ·obtain rfl:E2=0:=Decidable.not_not.1 hE20
     have z3:((0:Int) != 0)=false:=rfl
     obtain ⟨_,L6,hL6,hL6P⟩:=HOG.out.inF
     have hP0l:∀ o ∈ P0,o.l.length≤256:=fun o ho=>by
      rw [HP0.out.1] at ho
      exact (HO.out.p.row o (List.mem_of_mem_drop ho)).1
     have hq256:P0.length≤256:=by
      rw [HP0.out.1,List.length_drop]
      have:=HO.out.p.cnt
      omega
     have hLl:∀ o ∈ L6,o.l.length≤1000:=fun o ho=>by
      have:=hP0l o.op (by rw [← hL6P];exact List.mem_map.2 ⟨o,ho,rfl⟩)
      show o.op.l.length≤1000
      omega
     have hmap:(L6.map rvOf).map RowV.l=Pl.rowsO P0:=by rw [← hL6P,List.map_map,Pl.rowsO,List.map_map];rfl
     have hlen6:(L6.map rvOf).length≤1000:=by
      have h1:=hL6.1.len
      rw [List.length_map]
      omega
     have hap:∀ q ∈ L6.map rvOf,Apart (fun b=>k b≠0) q.A q.n:=fun q hq=>by
      obtain ⟨o,ho,rfl⟩:=List.mem_map.1 hq
      refine (hL6.2.2 o ho).2.apart fun b hb hn=>?_
      have h1:=HH.out.lt b hn
      have h2:=HB1.out.size
      have h3:=hb.1
      have h4:w1.drew.heap.size=w1.heap.size:=rfl
      omega
     have hRW:=fun (wr:World) (hb:Below wG.heap.size wG wr)=>rows_any (hL6.then_ hb) (by omega) hLl
     obtain ⟨RV,hRV⟩ : ∃ RV,RV=L6.map rvOf:=⟨_,rfl⟩
     rw [← hRV] at hRW hmap hlen6 hap
     have HRW:=Lib.hid (fun (wr:World) (hb:Below wG.heap.size wG wr)=>(hRW wr hb).mono fun e w3 ⟨B,dB,h1,h2,h3,h4⟩=>(show ∃ v,e=Ending.returned v∧RwK k RV v w3∧Below wr.heap.size wr w3 from ⟨_,h1,⟨B,dB,rfl,h2,fun a h0 ea=>by
      have h5:=h3 a h0 ea
      rcases Nat.eq_zero_or_pos (k a.block) with h | h
      ·exact h
      ·have h6:=HH.out.lt a.block (by omega)
       have h7:=HBG.out.size
       have h8:=hb.size
       omega,hap⟩,h4⟩))
     obtain ⟨er,her⟩ : ∃ er,er=d.editRow base row:=⟨_,rfl⟩
     have her2:Pl.pastR row (Pl.rowsO P0)=er:=by rw [her,HP0.out.1];rfl
     have hel:er.length=n:=by rw [← her2,Pl.past_len,HRL.out]
     have HPS:=Lib.hid (fun (wA:World) B dB (hR:RowsV wA B RV) (hb:Below w.heap.size w wA)=>show Calls Tryz.prog 76 #[.slice A n c,.slice B RV.length dB] wA fun e w3=>∃ v,e=.returned v∧UnK k er v w3∧Below wA.heap.size wA w3 from by
      have:=past_any A n c row B dB RV wA (Rws.then_ HU.out hb) hR (by omega) hlen6
      rw [hmap,her2] at this
      refine this.mono fun e w3 ⟨A5,c5,h1,h2,h3⟩=>⟨_,h1,⟨A5,c5,_,rfl,h2,fun b hn=>Nat.lt_of_lt_of_le (HH.out.lt b hn) hb.size⟩,h3⟩)
     obtain ⟨br,hbr⟩ : ∃ br,br=d.bars er:=⟨_,rfl⟩
     have hCM:=fun (wB:World) A5 c5 B (ho:OwnU wB B (.slice A5 er.length c5) er) (hb:Below w.heap.size w wB)=>commit_any (HH.out.then_ hb) HO.out x y A5 er.length c5 er (OwnU.uns ho) (by omega) hm
     rw [← hbr] at hCM
     obtain ⟨dC,hdC⟩ : ∃ dC,dC=if br=0 then d.behind x y er else d:=⟨_,rfl⟩
     rw [← hdC] at hCM
     have HCM:=Lib.hid hCM
     have HER:=Lib.hid (And.intro her (And.intro hbr (And.intro hdC hel)))
     obtain ⟨⟨x0,x1⟩,x2,x3,x4,d0,d1,d2,d3,d4⟩:=HXW.out wG HBG.out
     have HYC:=Lib.hid (fun (W:World) (hv:∃ k',Mv k wG k' W)=>And.intro (cell0 (r:=[]) (hv.choose_spec.old (below_old HBG.out HX.out.2.2.1 (lt_of_block HX.out.2.2.1)) HK.out.1.2.2.1)) (And.intro (cell0 (r:=[.int .u64 y]) (hv.choose_spec.old (below_old HBG.out HX.out.1 (lt_of_block HX.out.1)) HK.out.1.1)) (And.intro (cell1 (r:=[]) (hv.choose_spec.old (below_old HBG.out HX.out.1 (lt_of_block HX.out.1)) HK.out.1.1)) (cell0 (r:=[]) (hv.choose_spec.old (below_old HBG.out HX.out.2.1 (lt_of_block HX.out.2.1)) HK.out.1.2.1)))))
     clear hL6 hL6P hP0l hLl hmap hRV her her2 hbr hdC hRW hap hCM hel d0 d1 d2 d3 d4 x0 x1 x2 x3 x4 L6 hlen6
     go_wp2_with fail
     refine Rq.wp_region_inv (CmS wG D pa tx ls mk k m dC br 4 5 6) (CmT k) (Rq.Wd.at [.is (.pointer (some ⟨D,0,none⟩)),.is (.agg #[.int .u32 x,.int .u64 y]),.is (.slice A n c),.is (.slice A6 P0.length c6),.pred (RwK k RV),.pred (UnK k er),.is (.int .i64 br),.is (.int .i64 br)]) (by kernel_rfl) (by kernel_rfl) (Rq.Wd.stays _ _ (fun i q hi=>(by rcases i with _ | _ | _ | _ | _ | _ | _ | _ | i <;> simp at hi <;> (subst hi;first | exact fun k v w1 w2 _ h hr=>RwK.tn h hr | exact fun k v w1 w2 _ h hr=>UnK.tn h hr)))) (CmS.begin (below_drawn (Below.refl _ _))) ⟨?_,?_,?_,?_,?_,?_,?_,?_,trivial⟩ ?_
     ·intro L a w1 hL hS hb hd
      have e3:=hb 3 (Rq.nw (by decide))
      simp [Act.eval] at e3
      exact Rq.does_pure (Rq.wanted_none rfl) (by simp [execOp,e3,(HYC.out w1 hS.mv).1,go_sem]) rfl (hS.stay (by decide)) (cmT_refl _ _ _)
     ·intro L a w1 hL hS hb hd
      have e1:=hb 1 (Rq.nw (by decide))
      simp [Act.eval] at e1
      exact Rq.does_pure (Rq.wanted_none rfl) (by simp [execOp,e1,(HYC.out w1 hS.mv).2.1,(HYC.out w1 hS.mv).2.2.1,go_sem]) rfl (hS.stay (by decide)) (cmT_refl _ _ _)
     ·intro L a w1 hL hS hb hd
      have e2:=hb 2 (Rq.nw (by decide))
      simp [Act.eval] at e2
      exact Rq.does_pure (Rq.wanted_none rfl) (by simp [execOp,e2,(HYC.out w1 hS.mv).2.2.2,go_sem]) rfl (hS.stay (by decide)) (cmT_refl _ _ _)
     ·intro L a w1 hL hS hb hd
      have e9:=hb 9 (Rq.nw (by decide))
      simp [Act.eval] at e9
      exact Rq.does_pure (Rq.wanted_none rfl) (by simp [execOp,e9,go_sem]) rfl (hS.stay (by decide)) (cmT_refl _ _ _)
     ·intro L a w1 hL hS hb hd
      have p58:=(hd ⟨3,.data⟩ (by simp) rfl).2 _ _ rfl rfl
      have e58:a.tmps[58]?.getD undef=(.slice A6 P0.length c6):=Rq.slot p58
      refine Rq.does_call (f:=77) (args:=#[.slice A6 P0.length c6]) (Rq.wanted_none rfl) (by simp [e58,go_sem]) ?_
      refine (HRW.out w1 (hS.1 (hS.no_a hL))).mono ?_;rintro e w3 ⟨v3,rfl,hv3,hb3⟩;exact ⟨_,rfl,hv3,hS.first (by decide) hL hb3,Tn.of _ hb3⟩
     ·intro L a w1 hL hS hb hd
      have p57:=(hd ⟨2,.data⟩ (by simp) rfl).2 _ _ rfl rfl
      have e57:a.tmps[57]?.getD undef=(.slice A n c):=Rq.slot p57
      have p59:=(hd ⟨4,.data⟩ (by simp) rfl).2 _ _ rfl rfl
      obtain ⟨B,dB,hv59,hr,_⟩:=p59;have e59:=Rq.slot hv59;refine Rq.does_call (f:=76) (args:=#[.slice A n c,.slice B RV.length dB]) (Rq.wanted_none rfl) (by simp [e57,e59,go_sem]) ?_;refine (HPS.out w1 B dB hr (below_then HBG.out (hS.1 (hS.no_b hL)))).mono ?_;rintro e w3 ⟨v3,rfl,hv3,hb3⟩;exact ⟨_,rfl,hv3,hS.second (by decide) hL (hd ⟨4,.data⟩ (by simp) rfl).1 hb3,Tn.of _ hb3⟩
     ·intro L a w1 hL hS hb hd
      have p55:=(hd ⟨0,.data⟩ (by simp) rfl).2 _ _ rfl rfl
      have e55:a.tmps[55]?.getD undef=(.pointer (some ⟨D,0,none⟩)):=Rq.slot p55
      have p56:=(hd ⟨1,.data⟩ (by simp) rfl).2 _ _ rfl rfl
      have e56:a.tmps[56]?.getD undef=(.agg #[.int .u32 x,.int .u64 y]):=Rq.slot p56
      have p60:=(hd ⟨5,.data⟩ (by simp) rfl).2 _ _ rfl rfl
      obtain ⟨A5,c5,B5,hv60,ho5,_⟩:=p60;have e60:=Rq.slot hv60;refine Rq.does_call (f:=75) (args:=#[.pointer (some ⟨D,0,none⟩),.agg #[.int .u32 x,.int .u64 y],.slice A5 er.length c5]) (Rq.wanted_none rfl) (by simp [e55,e56,e60,go_sem]) ?_;refine (HCM.out w1 A5 c5 B5 ho5 (below_then HBG.out (hS.1 hL))).mono ?_;rintro e w3 hc;obtain ⟨k3,m3,rfl,_,_,hv3⟩:=id hc;exact ⟨_,rfl,rfl,hS.done hL (hd ⟨5,.data⟩ (by simp) rfl).1 hc,hv3.tn⟩
     ·intro L a w1 hL hS hb hd
      have p61:=(hd ⟨6,.data⟩ (by simp) rfl).2 _ _ rfl rfl
      have e61:a.tmps[61]?.getD undef=(.int .i64 br):=Rq.slot p61
      exact Rq.does_pure (Rq.wanted_none rfl) (by simp [execOp,e61,go_sem]) rfl (hS.stay (by decide)) (cmT_refl _ _ _)
     intro L v wC hS hall hv
     have h7:v 7=.int .i64 br:=hv 7 _ _ rfl rfl
     obtain ⟨wB,hbB,kC,mC,_,hdm,hmC,hvC⟩:=hS.2.1 (hall 6 (by decide))
     have HDC:=Lib.hid hdm
     have HMC:=Lib.hid hmC
     have HVC:=Lib.hid ((Mv.of k (below_then HBG.out hbB)).trans hvC)
     simp only [Rq.putAll,Nat.zero_add,Nat.reduceAdd]
     simp only [Act.put,List.setIfInBounds_toArray,List.set_cons_succ,List.set_cons_zero]
     rw [h7]
     clear h7 hS hall hv hbB hdm hmC hvC HCM HPS HRW HYC
     by_cases hb0:br=0
     ·subst hb0
      have hdC:dC=d.behind x y er:=by rw [HER.out.2.2.1,if_pos rfl]
      have hb0:d.bars er=0:=HER.out.2.1.symm
      subst hdC
      have hE0:d.editE x y base row=0:=by
       unfold Pl.Dc.editE
       rw [if_neg HM.out.2,if_neg (by rw [HPL.out];decide),if_neg (by rw [HRL.out];exact hn2),← HLO.out,← HE2.out,if_neg (by decide),← HER.out.1,hb0]
      have HE0:=Lib.hid hE0
      have hlb:base≤d.now:=HP12.out.2
      have hLT:(d.behind x y er).later base=d.later base ++ [d.newOp x y er]:=Pl.Dc.later_behind d x y er hlb
      have hSn:=since_ok HDC.out.drew.past (base - d.fr) base (by have:=HP12.out;show base=d.fr + _;omega) (by show base - d.fr≤(d.P ++ [d.newOp x y er]).length;rw [List.length_append];have:=HP12.out;omega)
      rw [show (d.behind x y er).P.drop (base - d.fr)=d.later base ++ [d.newOp x y er] from hLT] at hSn
      obtain ⟨PT,hPT⟩ : ∃ PT,PT=d.later base ++ [d.newOp x y er]:=⟨_,rfl⟩
      rw [← hPT] at hSn
      have HSN:=Lib.hid hSn
      have HPT:=Lib.hid hPT
      have HAC:=Lib.hid (show AnAt wC al 0 0 false none 0 0 none 0 0 none 0 0 from HVC.out.old HA.out HKA.out)
      have y1:=HVC.out.old HX.out.1 HK.out.1.1
      have y3:=HVC.out.old HX.out.2.2.1 HK.out.1.2.2.1
      have y4:=HVC.out.old HX.out.2.2.2.1 HK.out.1.2.2.2.1
      have y5:=HVC.out.old HX.out.2.2.2.2 HK.out.1.2.2.2.2
      have HY:=Lib.hid (And.intro y1 (And.intro y3 (And.intro y4 y5)))
      have x3:=cell0 (r:=[]) y3
      have x4:=cell0 (r:=[]) y4
      have dd1:=HDC.out.cells.2.1
      have HKS:=Lib.hid (fun (wE:World) (hb:Below wC.drew.heap.size wC.drew wE)=>And.intro ((hb.cell (p:=⟨b3,0,none⟩) (World.block_lt_of_cell? wC _ x3)).trans x3) (And.intro ((hb.cell (p:=⟨D,1,none⟩) (World.block_lt_of_cell? wC _ dd1)).trans dd1) ((hb.cell (p:=⟨b4,0,none⟩) (World.block_lt_of_cell? wC _ x4)).trans x4)))
      have hDal:D≠al:=fun e=>by have h1:=HH.out.kD;rw [e,HKA.out] at h1;cases h1
      have HKZ:=Lib.hid (fun (wE:World) (v:Value) (hb:Below wC.drew.heap.size wC.drew wE)=>And.intro ((((Tn.refl (fun b=>b=al) wE).set_ (p:=⟨al,5,none⟩) (Or.inr rfl) v).cell (p:=⟨b3,0,none⟩) (World.block_lt_of_cell? wE _ (HKS.out wE hb).1) (fun e=>HK.out.2 (.inr (.inr (.inl e))))).trans (HKS.out wE hb).1) (And.intro ((((Tn.refl (fun b=>b=al) wE).set_ (p:=⟨al,5,none⟩) (Or.inr rfl) v).cell (p:=⟨D,1,none⟩) (World.block_lt_of_cell? wE _ (HKS.out wE hb).2.1) hDal).trans (HKS.out wE hb).2.1) ((((Tn.refl (fun b=>b=al) wE).set_ (p:=⟨al,5,none⟩) (Or.inr rfl) v).cell (p:=⟨b4,0,none⟩) (World.block_lt_of_cell? wE _ (HKS.out wE hb).2.2) (fun e=>HK.out.2 (.inr (.inr (.inr (.inl e)))))).trans (HKS.out wE hb).2.2)))
      clear hE0 hb0 hLT hSn hPT y1 y3 y4 y5 hDal
      go_wp2_with fail
      go_region_held3 (fun w'=>w'.cell? ⟨b3,0,none⟩=some (.pointer (some ⟨D,0,none⟩))∧w'.cell? ⟨D,1,none⟩=some (.pointer (some ⟨pa,0,none⟩))∧w'.cell? ⟨b4,0,none⟩=some (.int .u64 (base:Int)))
       (first | (go_split_ands;exact HKS.out _ hbS) | (go_split_ands;exact HKZ.out _ _ hbS) | go_keep)
       (first | (go_at_call 72;refine HSN.out.mono ?_;rintro e wS ⟨A7,c7,rfl,hoS,hbS⟩;obtain ⟨f0,f1,f2,f3,f4,f5,f6⟩:=(HAC.out.then_ (below_drew hbS)).cells;have f7:=(HAC.out.then_ (below_drew hbS)).frozen))
      have hb9:Below wC.heap.size wC wS:=below_drew hbS
      have t9:Tn (fun b=>b=al) wS (wS.setCell ⟨al,5,none⟩ (.slice A7 PT.length c7)):=(Tn.refl (fun b=>b=al) wS).set_ (p:=⟨al,5,none⟩) (Or.inr rfl) _
      have hd9:DocM (wS.setCell ⟨al,5,none⟩ (.slice A7 PT.length c7)) D pa tx ls mk kC (d.behind x y er).cs.length (d.behind x y er) mC:=(HDC.out.then_ hb9).tn t9 (fun b hb e=>by
       rw [e] at hb
       exact hb ((HVC.out.eq al HA.out.lt).trans HKA.out))
      obtain ⟨y1,y3,y4,y5⟩:=HY.out
      have hne:=HK.out.2
      have q1:=t9.old (below_old hb9 y1 (lt_of_block y1)) (fun e=>hne (.inl e))
      have q3:=t9.old (below_old hb9 y3 (lt_of_block y3)) (fun e=>hne (.inr (.inr (.inl e))))
      have q5:=t9.old (below_old hb9 y5 (lt_of_block y5)) (fun e=>hne (.inr (.inr (.inr (.inr e)))))
      have HOS9:=Lib.hid (And.intro hb9 hoS)
      have HD9:=Lib.hid hd9
      clear f0 f1 f2 f3 f4 f5 f6 f7 hbS hoS hb9 t9 hd9 y1 y3 y4 y5 hne HKZ HKS HSN x3 x4 dd1
      generalize hW9:wS.setCell ⟨al,5,none⟩ (.slice A7 PT.length c7)=w9 at HD9 q1 q3 q5 ⊢
      have HW9:=Lib.hid hW9
      clear hW9
      have hSL:=HD9.out.drew.setLs HXX.out now h0
      have hl0:(Pl.setL (d.behind x y er).L x now).1=0:=Pl.Dc.set_live HL.out hnow
      rw [hl0] at hSL
      have HSL:=Lib.hid hSL
      have x1:=cell0 (r:=[.int .u64 y]) q1
      have x3:=cell0 (r:=[]) q3
      have x5:=cell0 (r:=[]) q5
      have dd3:=HD9.out.cells.2.2.2.1
      have hkC:∀ b,k b=0→b<w.heap.size→kC b=0:=fun b h1 h2=>(HVC.out.eq b h2).trans h1
      have HKL:=Lib.hid (fun (wE:World) (ht:Tn (fun b=>kC b=6) w9.drew wE)=>And.intro (cell0 (r:=[]) (ht.old (w:=w9.drew) q3 (by rw [hkC b3 HK.out.1.2.2.1 (lt_of_block HX.out.2.2.1)];decide))) (And.intro ((ht.cell (p:=⟨D,3,none⟩) (lt_of_block HD9.out.blk) (by rw [show (⟨D,3,none⟩ : Addr).block=D from rfl,HD9.out.kD];decide)).trans dd3) (And.intro (cell0 (r:=[.int .u64 y]) (ht.old (w:=w9.drew) q1 (by rw [hkC b1 HK.out.1.1 (lt_of_block HX.out.1)];decide))) (cell0 (r:=[]) (ht.old (w:=w9.drew) q5 (by rw [hkC b5 HK.out.1.2.2.2.2 (lt_of_block HX.out.2.2.2.2)];decide))))))
      clear hSL hl0 q1 q3 q5 hkC
      go_wp2_with fail
      go_region_held3 (fun w'=>w'.cell? ⟨b3,0,none⟩=some (.pointer (some ⟨D,0,none⟩))∧w'.cell? ⟨D,3,none⟩=some (.pointer (some ⟨ls,0,none⟩))∧w'.cell? ⟨b1,0,none⟩=some (.int .u32 x)∧w'.cell? ⟨b5,0,none⟩=some (.int .u64 now))
       (first | (go_split_ands;exact HKL.out _ htL) | go_keep)
       (first | (go_at_call 64;refine HSL.out.mono ?_;rintro e wL9 ⟨rfl,hdL,htL⟩))
      have HDL:=Lib.hid (And.intro hdL htL)
      clear hdL htL
      go_wp2_with fail
      rw [HR0.out]
      have hed:d.editF x y base row now=((d.behind x y er).renewed x now,⟨0,0,false,[],PT,[]⟩):=by
       unfold Pl.Dc.editF
       rw [HE0.out,if_neg (by decide),← HER.out.1,HPT.out]
      rw [hed]
      exact OwnD.ops HH.out.lt HKA.out HA.out.lt HDC.out.lt HMC.out HVC.out HAC.out HOS9.out.1 HOS9.out.2 (by rw [HW9.out];exact (Tn.of (fun b=>kC b=6) (below_drawn (Below.refl w9.heap.size w9))).trans HDL.out.2 (fun _ _ h=>h)) HDL.out.1
     ·have z4:(br != 0)=true:=by simpa using hb0
      have z5:decide (br≠0)=true:=decide_eq_true hb0
      have hdC:dC=d:=by rw [HER.out.2.2.1,if_neg hb0]
      subst hdC
      go_wp2_with fail
      rw [HR0.out]
      have hE0:dC.editE x y base row=br:=by
       unfold Pl.Dc.editE
       rw [if_neg HM.out.2,if_neg (by rw [HPL.out];decide),if_neg (by rw [HRL.out];exact hn2),← HLO.out,← HE2.out,if_neg (by decide),← HER.out.1,← HER.out.2.1]
      have:dC.editF x y base row now=(dC,Pl.fails br):=by unfold Pl.Dc.editF;rw [hE0,if_pos hb0]
      rw [this]
      exact ⟨kC,mC,rfl,HDC.out,HMC.out,HVC.out.tn.more fun b _ h=>.inl h,HVC.out.eq,fun h=>absurd h hb0⟩
end
end Go.Proofs.YtlgdcelgkiipaaaGreat
