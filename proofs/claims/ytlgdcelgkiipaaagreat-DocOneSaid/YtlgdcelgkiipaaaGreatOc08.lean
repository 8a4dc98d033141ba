/-
  weave.Apply: the text that a row leaves. Conditions: rows of at most a thousand units; texts of at most a hundred thousand code points.
  weave.Place, weave.Past, slices.Index, the statements' own ins and del. Conditions: rows of at most a thousand units.
  Lengths behind a row; a number counted round; the words for a unit's own cells in a drawn region. Conditions: those that each states.
-/
import Derived.Test.YtlgdcelgkiipaaaGreatOc07
set_option maxRecDepth 100000
set_option linter.unusedVariables false
namespace Go.Proofs.YtlgdcelgkiipaaaGreat
open Go.RowKit
open Pl (Un)
theorem may_j {c:Int} (h:Pl.May c):Pl.J c:=by unfold Pl.May at h;unfold Pl.J;omega
theorem fitR_len {r:List Un} {cs:List Int} (h:Pl.FitR r cs):∀ j,(Pl.leave (r.take j) cs).length≤cs.length + j:=by
 induction r generalizing cs with
 | nil=>intro j;rw [List.take_nil];exact Nat.le_add_right _ _
 | cons u r ih =>
  intro j
  cases j with
  | zero=>exact Nat.le_refl _
  | succ j =>
   have h1:=Pl.len_behind_le h.1
   have h2:=ih h.2 j
   show (Pl.leave (r.take j) (Pl.behind u cs)).length≤_
   omega
def ApR (w:World) (row:List Un) (cs:List Int) (s i:Value) (wr:World):Prop:=∃ (j:Nat) (A:Option Addr) (c:Nat),i=.int .i64 (j:Int)∧s=.slice A (Pl.leave (row.take j) cs).length c∧j≤row.length∧OwnC wr w.heap.size (.slice A (Pl.leave (row.take j) cs).length c) (Pl.leave (row.take j) cs)∧Below w.heap.size w wr
theorem turned_below {w0 w w':World} {v:Value} {cs:List Int} (hb:Below w0.heap.size w0 w) (ho:OwnC w w0.heap.size v cs) (ht:Tn (fun b=>v.ownBlock=some b) w w'):Below w0.heap.size w0 w':=ht.below hb hb.size (fun b hb2=>(ho.lt b hb2).1)
set_option maxHeartbeats 1000000 in
theorem applyR_fit (A:Option Addr) (n c:Nat) (cs:List Int) (B:Option Addr) (m d:Nat) (row:List Un) (w:World) (h1:Crs w w.heap.size A n c cs) (h2:Uns w w.heap.size B m d row) (hn:n≤100000) (hm:m≤1000) (hf:Pl.FitR row cs) :
  Calls Tryz.prog 31 #[.slice A n c,.slice B m d] w fun e w'=>∃ A' c',e=.returned (.tuple #[.slice A' (Pl.leave row cs).length c',.int .i64 0])∧OwnC w' w.heap.size (.slice A' (Pl.leave row cs).length c') (Pl.leave row cs)∧Below w.heap.size w w':=by
 have HL:=Lib.hid (long_any B m d row (n:Int) w h2 hm (by omega))
 have HE:=Lib.hid (show Pl.longL row (n:Int)=(((Pl.leave row cs).length:Int),0) by rw [← h1.len];exact Pl.longL_fit hf)
 rw [HE.out] at HL
 simp only at HL
 have HC:=Lib.hid h1
 have HU:=Lib.hid h2
 have HF:=Lib.hid hf
 have HNL:=Lib.hid h1.len
 have HML:=Lib.hid h2.len
 clear h1 h2 hf
 go_enter Tryz.func31,Tryz.ntmps31
 go_wp2_with fail
 refine HL.out.mono ?_
 rintro e w1 ⟨rfl,hb⟩
 have HB1:=Lib.hid hb
 have HCL:=Lib.hid (cloneC_any A n c cs w1 (HC.out.then_ hb) (by omega))
 clear hb
 go_wp2_with fail
 refine HCL.out.mono ?_
 rintro e w2 ⟨A2,c2,rfl,hO,hb⟩
 have HB2:=Lib.hid (below_then' HB1.out hb HB1.out.size)
 have HR:=Lib.hid (show ApR w row cs (.slice A2 cs.length c2) (.int .i64 ((0:Nat):Int)) w2 from ⟨0,A2,c2,rfl,rfl,Nat.zero_le _,hO.lower HB1.out.size,HB2.out⟩)
 clear hb hO HCL
 go_wp2_with fail
 go_loopw [8,25] (fun s i wr=>ApR w row cs s i wr) (fun _ i _=>m - (intOf i).toNat)
 case atStart=>exact HR.out
 case round =>
  obtain ⟨j,A3,c3,rfl,rfl,hj,ho,hb⟩:=hrel
  have HB:=Lib.hid hb
  have HO:=Lib.hid ho
  have hlen:=fitR_len HF.out j
  rw [HML.out] at hj
  clear hb ho HR
  by_cases hlt:j<m
  ·obtain ⟨g1,o1,rfl,hg1,hc1⟩:=Uns.at_ (Rws.below HU.out HB.out (Nat.le_refl _)) hlt
   obtain ⟨a0,a1,a2,a3,a4⟩:=hc1 j hlt
   have hjl:j<row.length:=by rw [HML.out];exact hlt
   have hfit:=Pl.fit_take row cs HF.out j _ (getD_of_get hjl)
   have hlv:=Pl.leave_take row cs j _ (getD_of_get hjl)
   obtain ⟨u,hu⟩ : ∃ u,u=row.getD j default:=⟨_,rfl⟩
   rw [← hu] at a0 a1 a2 a3 a4 hfit hlv
   obtain ⟨T,hT⟩ : ∃ T,T=Pl.leave (row.take j) cs:=⟨_,rfl⟩
   obtain ⟨T2,hT2⟩ : ∃ T2,T2=Pl.leave (row.take (j + 1)) cs:=⟨_,rfl⟩
   rw [← hT,← hT2] at hlv
   rw [← hT] at hfit hlen HO
   have HT2:=Lib.hid hT2
   have HTE:=Lib.hid hT.symm
   have z0:(0:Int)≤(j:Int):=by omega
   have z1:(j:Int)<(m:Int):=by omega
   rw [HTE.out]
   obtain ⟨K,hK⟩ : ∃ K,K=T.length:=⟨_,rfl⟩
   rw [← hK] at HO hlen hfit ⊢
   rw [HNL.out] at hlen
   clear hc1 hu hT hT2
   rcases Pl.fit_cases hfit with ⟨x,y,rfl⟩ | ⟨p,ch,x,y,rfl,hpl,hmay⟩ | ⟨p,ch,x,y,rfl,hpl,hmay⟩
   ·rw [Pl.behind_nop] at hlv
    have HLV:=Lib.hid hlv
    simp only at a0 a1 a2 a3 a4
    have HBX:=Lib.hid (below_box wr (.cells #[.int .i64 0,.int .i64 0,.int .i32 0,.int .u32 x,.int .u64 y] 47))
    have HK:=Lib.hid hK
    clear hfit hlv hK
    go_wp2_with fail
    go_roundw
    case rel =>
     refine ⟨j + 1,A3,c3,by go_num,?_,by rw [HML.out];omega,?_,below_then' HB.out HBX.out HB.out.size⟩
     ·rw [← HT2.out,HLV.out,← HK.out]
     ·rw [← HT2.out,HLV.out,← HK.out];exact OwnC.then_ HO.out HBX.out
    case measure=>simp [intOf];omega
   ·rw [Pl.behind_ins] at hlv
    have hinl:T2=T.take p ++ [ch] ++ T.drop p:=by rw [hlv];unfold Pl.insL;simp
    have hl2:T2.length=K + 1:=by rw [hlv,Pl.len_insL (by omega)];omega
    simp only at a0 a1 a2 a3 a4
    obtain ⟨W5,hW5⟩ : ∃ W5,W5=wr.alloc (.cells #[.int .i64 1,.int .i64 (p:Int),.int .i32 ch,.int .u32 x,.int .u64 y] 47):=⟨_,rfl⟩
    have hb5:Below wr.heap.size wr W5:=by rw [hW5];exact below_box _ _
    have hs5:W5.heap.size=wr.heap.size + 1:=by rw [hW5];simp
    obtain ⟨W6,hW6⟩ : ∃ W6,W6=W5.alloc (.cells #[.int .i32 ch] 41):=⟨_,rfl⟩
    have hb6:Below W5.heap.size W5 W6:=by rw [hW6];exact below_box _ _
    have hV:Crs W6 W6.heap.size (some ⟨W5.heap.size,0,none⟩) 1 1 [ch]:=by
     rw [hW6]
     exact (crs_lit W5 [ch] (fun y hy=>by simp at hy;rw [hy];exact may_j hmay) (by simp [maxLen])).crs.2
    have hs6:w.heap.size≤W6.heap.size:=Nat.le_trans HB.out.size (Nat.le_trans hb5.size hb6.size)
    have ho6:OwnC W6 w.heap.size (.slice A3 K c3) T:=OwnC.then_ (OwnC.then_ HO.out hb5) hb6
    have HI:=Lib.hid (insC_any W6 w.heap.size A3 K c3 T ho6 hs6 p (by omega) _ 1 1 [ch] hV (fun _ g hg ad had e=>by cases had;have:=(HO.out.lt g hg).2;have:=hb5.size;simp only at e;omega) (by omega))
    have HOT:=Lib.hid ho6
    have HB6:=Lib.hid (below_then' (below_then' HB.out hb5 HB.out.size) hb6 (Nat.le_trans HB.out.size hb5.size))
    rw [← hinl,hs5] at HI
    have HL2:=Lib.hid hl2
    have HW:=Lib.hid (hW6.trans (by rw [hW5]))
    have HLV:=Lib.hid hlv
    have z2:(0:Int)≤(p:Int):=by omega
    clear hfit hlv hK hinl hb5 hb6 hV hs6 ho6 hl2 hW6 hs5
    go_wp2_with fail
    rw [← HW.out]
    refine HI.out.mono ?_
    rintro e w7 ⟨A7,c7,rfl,ho7,ht7,_⟩
    have HO7:=Lib.hid ho7
    have HB7:=Lib.hid (turned_below HB6.out HOT.out ht7)
    clear ho7 ht7 a0 a1 a2 a3 a4 HI
    go_wp2_with fail
    go_roundw
    case rel =>
     refine ⟨j + 1,A7,c7,by go_num,?_,by rw [HML.out];omega,?_,HB7.out⟩
     ·rw [← HT2.out,HL2.out]
     ·rw [← HT2.out,HL2.out];exact HO7.out
    case measure=>simp [intOf];omega
   ·rw [Pl.behind_del] at hlv
    have hdel:T2=T.take p ++ T.drop (p + 1):=by rw [hlv];unfold Pl.delL;simp
    have hl2:T2.length=K - 1:=by
     have:=Pl.len_delL (p:=p) (l:=T) (by omega)
     rw [hlv];omega
    simp only at a0 a1 a2 a3 a4
    obtain ⟨W5,hW5⟩ : ∃ W5,W5=wr.alloc (.cells #[.int .i64 2,.int .i64 (p:Int),.int .i32 ch,.int .u32 x,.int .u64 y] 47):=⟨_,rfl⟩
    have hb5:Below wr.heap.size wr W5:=by rw [hW5];exact below_box _ _
    have ho5:OwnC W5 w.heap.size (.slice A3 K c3) T:=OwnC.then_ HO.out hb5
    have HI:=Lib.hid (delC_any W5 w.heap.size A3 K c3 T ho5 p 1 (by omega))
    have HOT:=Lib.hid ho5
    have HB6:=Lib.hid (below_then' HB.out hb5 HB.out.size)
    rw [← hdel] at HI
    have HL2:=Lib.hid hl2
    have HW:=Lib.hid hW5
    have z2:(0:Int)≤(p:Int):=Int.natCast_nonneg p
    have hw1:wrap64 ((p:Int) + 1)=((p + 1:Nat):Int):=by unfold wrap64;omega
    clear hfit hlv hK hdel hb5 ho5 hl2 hW5
    go_wp2_with fail
    rw [← HW.out]
    try rw [hw1]
    refine HI.out.mono ?_
    rintro e w7 ⟨A7,c7,rfl,ho7,ht7,_⟩
    have HO7:=Lib.hid ho7
    have HB7:=Lib.hid (turned_below HB6.out HOT.out ht7)
    clear ho7 ht7 a0 a1 a2 a3 a4 HI
    go_wp2_with fail
    go_roundw
    case rel =>
     refine ⟨j + 1,A7,c7,by go_num,?_,by rw [HML.out];omega,?_,HB7.out⟩
     ·rw [← HT2.out,HL2.out]
     ·rw [← HT2.out,HL2.out];exact HO7.out
    case measure=>simp [intOf];omega
  ·have hjm:row.take j=row:=List.take_of_length_le (by rw [HML.out];omega)
   rw [hjm] at HO hlen ⊢
   clear hjm
   go_wp2_with fail
   go_returns
   exact ⟨A3,c3,rfl,HO.out,HB.out⟩
open Go.RowKit
open Pl (Un)
def PlR (w:World) (row:List Un) (pos:Int) (s i:Value) (wr:World):Prop:=∃ j:Nat,i=.int .i64 (j:Int)∧s=.int .i64 (Pl.placeR pos (row.take j))∧j≤row.length∧Below w.heap.size w wr
set_option maxHeartbeats 1000000 in
theorem place_any (pos:Int) (B:Option Addr) (m d:Nat) (row:List Un) (w:World) (h:Uns w w.heap.size B m d row) :
  Calls Tryz.prog 103 #[.int .i64 pos,.slice B m d] w fun e w'=>e=.returned (.int .i64 (Pl.placeR pos row))∧Below w.heap.size w w':=by
 have hcap:=h.cap
 have hle:=h.le
 unfold maxLen at hcap
 have HU:=Lib.hid h
 have HML:=Lib.hid h.len
 clear h
 go_enter Tryz.func103,Tryz.ntmps103
 go_wp2_with fail
 go_loopw [0,9] (fun s i wr=>PlR w row pos s i wr) (fun _ i _=>m - (intOf i).toNat)
 case atStart=>exact ⟨0,rfl,rfl,Nat.zero_le _,Below.refl _ _⟩
 case round =>
  obtain ⟨j,rfl,rfl,hj,hb⟩:=hrel
  have HB:=Lib.hid hb
  rw [HML.out] at hj
  clear hb
  by_cases hlt:j<m
  ·obtain ⟨g1,o1,rfl,hg1,hc1⟩:=Uns.at_ (Rws.below HU.out HB.out (Nat.le_refl _)) hlt
   obtain ⟨a0,a1,a2,a3,a4⟩:=hc1 j hlt
   have hjl:j<row.length:=by rw [HML.out];exact hlt
   have hpt:=Pl.place_take row pos j _ (getD_of_get hjl)
   obtain ⟨u,hu⟩ : ∃ u,u=row.getD j default:=⟨_,rfl⟩
   rw [← hu] at a0 a1 a2 a3 a4 hpt
   obtain ⟨q,hq⟩ : ∃ q,q=Pl.placeR pos (row.take j):=⟨_,rfl⟩
   rw [← hq] at hpt ⊢
   obtain ⟨k,p,ch,x,y⟩:=u
   simp only at a0 a1 a2 a3 a4 hpt
   have z0:(0:Int)≤(j:Int):=by omega
   have z1:(j:Int)<(m:Int):=by omega
   have HB2:=Lib.hid (below_alloc HB.out (.cells #[.int .i64 k,.int .i64 p,.int .i32 ch,.int .u32 x,.int .u64 y] 47))
   have HPT:=Lib.hid hpt
   clear hc1 hu hpt hq
   by_cases hk:k=1
   ·subst hk
    by_cases hp:p≤q
    ·have HE:=Lib.hid (HPT.out.trans (if_pos ⟨rfl,hp⟩))
     go_wp2_with fail
     go_roundw
     case rel=>exact ⟨j + 1,by go_num,by rw [HE.out],by rw [HML.out];omega,HB2.out⟩
     case measure=>simp [intOf];omega
    ·have HE:=Lib.hid (HPT.out.trans ((if_neg (fun h=>hp h.2)).trans (if_neg (fun h=>by have:=h.1;omega))))
     go_wp2_with fail
     go_roundw
     case rel=>exact ⟨j + 1,by go_num,by rw [HE.out],by rw [HML.out];omega,HB2.out⟩
     case measure=>simp [intOf];omega
   ·have HN:=Lib.hid (HPT.out.trans (if_neg (fun h=>hk h.1)))
    have hkb:(k == 1)=false:=by simpa using hk
    by_cases hk2:k=2
    ·subst hk2
     by_cases hp:p<q
     ·have HE:=Lib.hid (HN.out.trans (if_pos ⟨rfl,hp⟩))
      go_wp2_with fail
      go_roundw
      case rel=>exact ⟨j + 1,by go_num,by rw [HE.out],by rw [HML.out];omega,HB2.out⟩
      case measure=>simp [intOf];omega
     ·have HE:=Lib.hid (HN.out.trans (if_neg (fun h=>hp h.2)))
      go_wp2_with fail
      go_roundw
      case rel=>exact ⟨j + 1,by go_num,by rw [HE.out],by rw [HML.out];omega,HB2.out⟩
      case measure=>simp [intOf];omega
    ·have HE:=Lib.hid (HN.out.trans (if_neg (fun h=>hk2 h.1)))
     have hkb2:(k == 2)=false:=by simpa using hk2
     go_wp2_with fail
     go_roundw
     case rel=>exact ⟨j + 1,by go_num,by rw [HE.out],by rw [HML.out];omega,HB2.out⟩
     case measure=>simp [intOf];omega
  ·have hjm:row.take j=row:=List.take_of_length_le (by rw [HML.out];omega)
   rw [hjm]
   clear hjm
   go_wp2_with fail
   go_ret
   exact ⟨rfl,HB.out⟩
def InR (w:World) (cs:List Int) (x:Int) (i:Value) (wr:World):Prop:=∃ j:Nat,i=.int .i64 (j:Int)∧j≤cs.length∧(∀ t,t<j→cs.getD t 0≠x)∧Below w.heap.size w wr
structure RowV where
 A:Option Addr
 n:Nat
 c:Nat
 l:List Un
instance:Inhabited RowV:=⟨⟨none,0,0,[]⟩⟩
def RowV.val (q:RowV):Value:=.slice q.A q.n q.c
def RowsV (w:World) (B:Option Addr) (R:List RowV):Prop :=
 0<R.length→∃ g,B=some ⟨g,0,none⟩∧g<w.heap.size∧∀ j,j<R.length→w.cell? ⟨g,j,none⟩=some (R.getD j default).val∧Uns w w.heap.size (R.getD j default).A (R.getD j default).n (R.getD j default).c (R.getD j default).l∧(R.getD j default).n≤1000
theorem RowsV.then_ {w w':World} {B:Option Addr} {R:List RowV} (h:RowsV w B R) (hb:Below w.heap.size w w'):RowsV w' B R:=fun h0=>by
 obtain ⟨g,e,hg,hc⟩:=h h0
 exact ⟨g,e,Nat.lt_of_lt_of_le hg hb.size,fun j hj=>⟨(hb.cell (p:=⟨g,j,none⟩) hg).trans (hc j hj).1,Rws.then_ (hc j hj).2.1 hb,(hc j hj).2.2⟩⟩
theorem pastR_append (a:List Un) (x y:List (List Un)):Pl.pastR a (x ++ y)=Pl.pastR (Pl.pastR a x) y:=by
 induction x generalizing a with
 | nil=>rfl
 | cons b x ih=>exact ih _
theorem len_pastR (a:List Un) (x:List (List Un)):(Pl.pastR a x).length=a.length:=by
 induction x generalizing a with
 | nil=>rfl
 | cons b x ih=>exact (ih _).trans (both_len1 a b)
def PaR (w:World) (la:List Un) (R:List RowV) (s i:Value) (wr:World):Prop:=∃ (j:Nat) (A:Option Addr) (c:Nat),i=.int .i64 (j:Int)∧s=.slice A la.length c∧j≤R.length∧OwnU wr w.heap.size (.slice A la.length c) (Pl.pastR la ((R.take j).map RowV.l))∧Below w.heap.size w wr
set_option maxHeartbeats 1000000 in
theorem past_any (A:Option Addr) (n c:Nat) (la:List Un) (B:Option Addr) (d:Nat) (R:List RowV) (w:World) (h1:Uns w w.heap.size A n c la) (h2:RowsV w B R) (hn:n≤1000) (hR:R.length≤1000) :
  Calls Tryz.prog 76 #[.slice A n c,.slice B R.length d] w (RetU w (Pl.pastR la (R.map RowV.l))):=by
 have HC:=Lib.hid (cloneU_any A n c la w h1 hn)
 have HR:=Lib.hid h2
 have HNL:=Lib.hid h1.len
 obtain ⟨m,hm⟩ : ∃ m,m=R.length:=⟨_,rfl⟩
 have HM:=Lib.hid hm
 rw [← hm] at hR ⊢
 have HLP:=Lib.hid (len_pastR la (R.map RowV.l))
 clear h1 h2 hm
 go_enter Tryz.func76,Tryz.ntmps76
 go_wp2_with fail
 refine HC.out.mono ?_
 rintro e w1 ⟨A1,c1,rfl,ho,hb⟩
 have HST:=Lib.hid (show PaR w la R (.slice A1 la.length c1) (.int .i64 ((0:Nat):Int)) w1 from ⟨0,A1,c1,rfl,rfl,Nat.zero_le _,ho,hb⟩)
 clear ho hb
 go_wp2_with fail
 go_loopw [0,11] (fun s i wr=>PaR w la R s i wr) (fun _ i _=>m - (intOf i).toNat)
 case atStart=>exact HST.out
 case round =>
  obtain ⟨j,A3,c3,rfl,rfl,hj,ho,hb⟩:=hrel
  have HB:=Lib.hid hb
  have HO:=Lib.hid ho
  rw [← HM.out] at hj
  clear HST
  by_cases hlt:j<m
  ·have hjl:j<R.length:=by rw [← HM.out];exact hlt
   obtain ⟨g,rfl,hg,hc⟩:=HR.out.then_ hb (by omega)
   obtain ⟨a0,hU,hq⟩:=hc j hjl
   have hget:R[j]?=some (R.getD j default):=by rw [List.getD_eq_getElem?_getD,List.getElem?_eq_getElem hjl];rfl
   obtain ⟨⟨A4,n4,c4,l4⟩,hr⟩ : ∃ r,r=R.getD j default:=⟨_,rfl⟩
   rw [← hr] at a0 hU hq hget
   simp only [RowV.val] at a0 hU hq
   have HP:=Lib.hid (show (Pl.bothR (Pl.pastR la ((R.take j).map RowV.l)) l4).1=Pl.pastR la ((R.take (j + 1)).map RowV.l) from by
    rw [List.take_add_one,hget,List.map_append,pastR_append];rfl)
   have HBO:=Lib.hid (both_any wr A3 la.length c3 _ A4 n4 c4 l4 ho.uns hU (by rw [HNL.out];exact hn) hq)
   have HL2:=Lib.hid (len_pastR la ((R.take j).map RowV.l))
   have z0:(0:Int)≤(j:Int):=by omega
   have z1:(j:Int)<(m:Int):=by omega
   clear hc hr hU hget ho hb
   go_wp2_with fail
   refine HBO.out.mono ?_
   rintro e w2 ⟨A5,c5,A6,c6,rfl,ho5,_,_,hb2⟩
   rw [HP.out] at ho5
   rw [HL2.out] at ho5 ⊢
   have HO5:=Lib.hid (OwnR.lower ho5 HB.out.size)
   have HB5:=Lib.hid (below_then' HB.out hb2 HB.out.size)
   clear ho5 hb2 a0
   go_wp2_with fail
   go_roundw
   case rel=>exact ⟨j + 1,A5,c5,by go_num,rfl,by rw [← HM.out];omega,HO5.out,HB5.out⟩
   case measure=>simp [intOf];omega
  ·have hjm:R.take j=R:=List.take_of_length_le (by rw [← HM.out];omega)
   rw [hjm] at HO
   clear hjm ho hb
   go_wp2_with fail
   go_ret
   exact ⟨A3,c3,by rw [HLP.out];rfl,by rw [HLP.out];exact HO.out,HB.out⟩
open Go.RowKit
open Pl (Un)
def FiS (wr:World) (b:Nat) (k p ch q c2 x y:Int) (L:Nat→Bool) (w:World):Prop :=
 UAt w b (if L 13=true then 1 else k) (if L 15=true then q else p) (if L 17=true then c2 else ch) x y∧(L 15=true→L 1=true)∧(L 17=true→L 9=true)∧Tn (fun z=>z=b) wr w
section
variable {wr w:World} {b i:Nat} {k p ch q c2 x y:Int} {L:Nat→Bool}
theorem rq_other {m i:Nat} (h:m≠i):Rq.up L m i=L i:=by simp [Rq.up,h]
theorem rq_same {i:Nat}:Rq.up L i i=true:=by simp [Rq.up]
theorem rq_keep {m i:Nat} (h:L i=true):Rq.up L m i=true:=by simp [Rq.up,h]
theorem FiS.pos (h:FiS wr b k p ch q c2 x y L w) (hL:L 1=false):w.cell? ⟨b,1,none⟩=some (.int .i64 p):=by
 have e:L 15=false:=by
  cases e:L 15 with
  | false=>rfl
  | true=>have:=h.2.1 e;rw [hL] at this;cases this
 have:=h.1.cells.2.1
 rw [e] at this
 simpa using this
theorem FiS.set1 (h:FiS wr b k p ch q c2 x y L w) (h1:L 1=true):FiS wr b k p ch q c2 x y (Rq.up L 15) (w.setCell ⟨b,1,none⟩ (.int .i64 q)):=by
 obtain ⟨g1,g2,g3,g4⟩:=h
 unfold FiS
 rw [rq_same,rq_other (show 15≠13 by decide),rq_other (show 15≠17 by decide),if_pos rfl]
 exact ⟨blk_set (i:=1) g1 (.int .i64 q),fun _=>rq_keep h1,fun h=>rq_keep (g3 h),Tn.set_ (T:=fun z=>z=b) g4 (p:=⟨b,1,none⟩) (Or.inr rfl) _⟩
end
end Go.Proofs.YtlgdcelgkiipaaaGreat
