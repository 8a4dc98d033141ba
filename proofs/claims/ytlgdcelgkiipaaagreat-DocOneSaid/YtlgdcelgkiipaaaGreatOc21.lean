/-
  slices.partitionOrdered at uint32. Conditions: rows of at most a million.
-/
import Derived.Test.YtlgdcelgkiipaaaGreatOc20
import Derived.Deep.CutBlock
import Derived.Deep.DeepCutAuto
set_option maxRecDepth 100000
set_option linter.unusedVariables false
namespace Go.Proofs.YtlgdcelgkiipaaaGreat.Ls
open Go.RowKit Go.Sort
section
variable {i j:Nat} {d:Array Int} {p:Int→Bool}
theorem up_go (h:i≤j):scanUp p d j i=if p d[i]! then scanUp p d j (i + 1) else i:=by
 rw [scanUp]
 cases p d[i]! <;> simp [h]
theorem up_stop (h:¬ i≤j∨p d[i]! = false):scanUp p d j i=i:=by
 rw [scanUp,if_neg]
 rcases h with h | h <;> simp [h]
theorem down_go (h:i≤j) (h0:0<j):scanDown p d i j=if p d[j]! then scanDown p d i (j - 1) else j:=by
 cases j with
 | zero=>omega
 | succ j =>
  rw [scanDown]
  cases p d[j + 1]! <;> simp [h]
theorem down_stop (h:¬ i≤j∨p d[j]! = false):scanDown p d i j=j:=by
 cases j with
 | zero=>rfl
 | succ j =>
  rw [scanDown,if_neg]
  rcases h with h | h <;> simp [h]
end
def PaO (w0:World) (base g n c a b:Nat) (R:Nat × Array Int) (vi vj:Value) (w:World):Prop:=∃ (i j:Nat) (dk:Array Int),vi=.int .i64 (i:Int)∧vj=.int .i64 (j:Int)∧a<i∧i≤j + 2∧j<b∧Sr w0 base g n c dk w∧partLoop ltInt a i j dk=R
set_option maxHeartbeats 4000000 in
theorem partition_u {w0 w:World} {base g n c a b v:Nat} {d:Array Int} (h:Sr w0 base g n c d w) (hav:a≤v) (hvb:v<b) (hb:b≤n) (hn:n≤1000000) :
  Calls Tryz.prog 269 #[.slice (some ⟨g,0,none⟩) n c,.int .i64 (a:Int),.int .i64 (b:Int),.int .i64 (v:Int)] w fun e w'=>e=.returned (.tuple #[.int .i64 ((partition ltInt d a b v).1:Int),.bool (partition ltInt d a b v).2.1])∧Sr w0 base g n c (partition ltInt d a b v).2.2 w':=by
 have HS0:=Lib.hid h
 have HB:=Lib.hid (show b≤n∧n≤1000000 from ⟨hb,hn⟩)
 have HAN:=Lib.hid (show a<n by omega)
 have HVN:=Lib.hid (show v<n by omega)
 have ha9:a<1000000:=by omega
 obtain ⟨j0,rfl⟩ : ∃ q,b=q + 1:=⟨b - 1,by omega⟩
 have hj9:j0<1000000:=by omega
 obtain ⟨b,hbj⟩ : ∃ b,b=j0 + 1:=⟨_,rfl⟩
 have HBJ:=Lib.hid hbj
 rw [← hbj] at HB ⊢
 obtain ⟨i0,hi0⟩ : ∃ q,q=a + 1:=⟨_,rfl⟩
 have HIJA:=Lib.hid (show a<i0∧i0≤j0 + 2∧j0<b by omega)
 have HI0:=Lib.hid hi0
 have EI:=Lib.hid (show ((a:Int) + 1)=(i0:Int) by omega)
 have EJ:=Lib.hid (show wrap64 ((b:Int) - 1)=(j0:Int) from wr4 (a:=1) (by omega) (by omega))
 clear h hav hvb hb hn hbj hi0
 go_enter Tryz.func269,Tryz.ntmps269
 go_wp2_with fail
 have l1:(a:Int)<(n:Int):=Int.ofNat_lt.2 HAN.out
 have l2:(v:Int)<(n:Int):=Int.ofNat_lt.2 HVN.out
 have c1:=HS0.out.cell HAN.out
 have c2:=HS0.out.cell HVN.out
 have f1:=HS0.out.fro (j:=a)
 have f2:=HS0.out.fro (j:=v)
 obtain ⟨x,hx⟩ : ∃ x,x=d[a]!:=⟨_,rfl⟩
 obtain ⟨y,hy⟩ : ∃ y,y=d[v]!:=⟨_,rfl⟩
 have hs4:=(HS0.out.swap (i:=a) (j:=v) HAN.out HVN.out).drew
 rw [← hx] at c1 hs4
 rw [← hy] at c2 hs4
 obtain ⟨u,c3⟩:=HS0.out.cell2 (i:=a) HVN.out (.int .u32 y)
 clear hx hy
 go_wp2_with fail
 go_region
 generalize ((w.setCell ⟨g,a,none⟩ (.int .u32 y)).setCell ⟨g,v,none⟩ (.int .u32 x)).drew=W1 at hs4 ⊢
 have HS1:=Lib.hid hs4
 clear hs4 c1 c2 c3 f1 f2 l1 l2
 obtain ⟨d1,hd1⟩ : ∃ q,q=swp d a v:=⟨_,rfl⟩
 rw [← hd1] at HS1
 have HD1:=Lib.hid hd1
 clear hd1
 obtain ⟨RA,hRA⟩ : ∃ q:Nat,q=scanUp (fun x=>ltInt x d1[a]!) d1 j0 i0:=⟨_,rfl⟩
 have HRA:=Lib.hid hRA
 clear hRA
 go_upto_block 0 with fail
 rw [EI.out,EJ.out]
 go_cut [10] (fun v wx=>v=.int .i64 (RA:Int)∧a<RA∧RA≤j0 + 2∧Sr w0 base g n c d1 wx)
 case first =>
  as_aux_lemma =>
  go_wp2_with fail
  go_loopw [10] (fun v wr=>∃ k:Nat,v=.int .i64 (k:Int)∧a<k∧k≤j0 + 2∧Sr w0 base g n c d1 wr∧scanUp (fun x=>ltInt x d1[a]!) d1 j0 k=RA) (fun v _=>j0 + 1 - (intOf v).toNat)
  case atStart=>exact ⟨i0,rfl,HIJA.out.1,HIJA.out.2.1,HS1.out,HRA.out.symm⟩
  case round =>
   obtain ⟨k,rfl,hk1,hk2,hs,he⟩:=hrel
   have HE:=Lib.hid he
   have HS2:=Lib.hid hs
   clear he hs
   by_cases hlt:k≤j0
   ·have hn9:k<n∧k<1000000∧0<k:=by have:=HB.out;have:=HIJA.out;omega
    have HK:=Lib.hid (show a<k + 1∧k + 1≤j0 + 2∧j0 + 1 - (k + 1)<j0 + 1 - k∧k≤j0 + 2∧a<k by have:=HIJA.out;omega)
    have hk9:=hn9.2.1
    have hk0:=hn9.2.2
    have c1:=HS2.out.cell hn9.1
    have c2:=HS2.out.cell HAN.out
    have z1:decide ((k:Int)≤(j0:Int))=true:=decide_eq_true (by omega)
    have z2:decide (k≤j0)=true:=decide_eq_true hlt
    have l1:(k:Int)<(n:Int):=Int.ofNat_lt.2 hn9.1
    have l2:(a:Int)<(n:Int):=Int.ofNat_lt.2 HAN.out
    obtain ⟨x,hx⟩ : ∃ x,x=d1[k]!:=⟨_,rfl⟩
    obtain ⟨y,hy⟩ : ∃ y,y=d1[a]!:=⟨_,rfl⟩
    rw [← hx] at c1
    rw [← hy] at c2
    have HXY:=Lib.hid (And.intro hx hy)
    have HLT:=Lib.hid hlt
    clear hx hy hlt hk1 hk2 hn9
    cases hl:ltInt x y with
    | true =>
     have HL:=fun w=>Lib.hid (less_u hl w)
     have HG:=Lib.hid (show scanUp (fun x=>ltInt x d1[a]!) d1 j0 (k + 1)=RA by rw [← HE.out,up_go HLT.out];rw [← HXY.out.1,← HXY.out.2,hl] <;> rfl)
     clear hl
     go_wp2_with fail
     go_quiet ((go_at_call 267;exact quiet_u (HL _).out))
     have hs3:=HS2.out.drewN nq
     generalize wr.drewN nq=W at hs3 ⊢
     have HS3:=Lib.hid hs3
     clear hs3 c1 c2 HL z1 z2
     go_wp2_with fail
     go_roundw
     case rel=>exact ⟨k + 1,by go_num,HK.out.1,HK.out.2.1,HS3.out,HG.out⟩
     case measure=>simp [intOf];(have:=HK.out;omega)
    | false =>
     have HL:=fun w=>Lib.hid (less_u hl w)
     have HG:=Lib.hid (show k=RA by rw [← HE.out,up_stop (.inr (by rw [← HXY.out.1,← HXY.out.2,hl] <;> rfl))])
     clear hl
     go_wp2_with fail
     go_quiet ((go_at_call 267;exact quiet_u (HL _).out))
     have hs3:=HS2.out.drewN nq
     generalize wr.drewN nq=W at hs3 ⊢
     have HS3:=Lib.hid hs3
     clear hs3 c1 c2 HL z1 z2
     go_wp2_with fail
     go_meet
     exact ⟨by rw [HG.out],by rw [← HG.out];exact HK.out.2.2.2.2,by rw [← HG.out];exact HK.out.2.2.2.1,HS3.out⟩
   ·have z1:decide ((k:Int)≤(j0:Int))=false:=decide_eq_false (by omega)
    have z2:decide (k≤j0)=false:=decide_eq_false hlt
    have HG:=Lib.hid (show k=RA by rw [← HE.out,up_stop (.inl hlt)])
    have HBS:=Lib.hid (show a<k∧k≤j0 + 2 by have:=HIJA.out;omega)
    clear hlt hk1 hk2
    go_wp2_with fail
    go_quiet (fail)
    have hs3:=HS2.out.drewN nq
    generalize wr.drewN nq=W at hs3 ⊢
    have HS3:=Lib.hid hs3
    clear hs3 z1 z2
    go_wp2_with fail
    go_meet
    exact ⟨by rw [HG.out],by rw [← HG.out];exact HBS.out.1,by rw [← HG.out];exact HBS.out.2,HS3.out⟩
 case rest =>
  obtain ⟨rfl,hc1,hc2,hs⟩:=hcut
  have HSA:=Lib.hid hs
  have HIJB:=Lib.hid (show a<RA∧RA≤j0 + 2∧j0<b from ⟨hc1,hc2,HIJA.out.2.2⟩)
  clear hc1 hc2 hs
  obtain ⟨RB,hRB⟩ : ∃ q:Nat,q=scanDown (fun x=>!ltInt x d1[a]!) d1 RA j0:=⟨_,rfl⟩
  have HRB:=Lib.hid hRB
  clear hRB
  go_upto_block 2 with fail
  go_cut [11] (fun v wx=>v=.int .i64 (RB:Int)∧RB<b∧RA≤RB + 2∧Sr w0 base g n c d1 wx)
  case first =>
   as_aux_lemma =>
   go_wp2_with fail
   go_loopw [11] (fun v wr=>∃ k:Nat,v=.int .i64 (k:Int)∧k<b∧RA≤k + 2∧Sr w0 base g n c d1 wr∧scanDown (fun x=>!ltInt x d1[a]!) d1 RA k=RB) (fun v _=>(intOf v).toNat)
   case atStart=>exact ⟨j0,rfl,HIJB.out.2.2,HIJB.out.2.1,HSA.out,HRB.out.symm⟩
   case round =>
    obtain ⟨k,rfl,hk1,hk2,hs,he⟩:=hrel
    have HE:=Lib.hid he
    have HS2:=Lib.hid hs
    clear he hs
    by_cases hlt:RA≤k
    ·have hn9:k<n∧k<1000000∧0<k:=by have:=HB.out;have:=HIJB.out;omega
     have HK:=Lib.hid (show k - 1<b∧RA≤k - 1 + 2∧k - 1<k∧k<b∧RA≤k + 2 by have:=HIJB.out;omega)
     have hk9:=hn9.2.1
     have hk0:=hn9.2.2
     have c1:=HS2.out.cell hn9.1
     have c2:=HS2.out.cell HAN.out
     have z1:decide ((RA:Int)≤(k:Int))=true:=decide_eq_true (by omega)
     have z2:decide (RA≤k)=true:=decide_eq_true hlt
     have l1:(k:Int)<(n:Int):=Int.ofNat_lt.2 hn9.1
     have l2:(a:Int)<(n:Int):=Int.ofNat_lt.2 HAN.out
     obtain ⟨x,hx⟩ : ∃ x,x=d1[k]!:=⟨_,rfl⟩
     obtain ⟨y,hy⟩ : ∃ y,y=d1[a]!:=⟨_,rfl⟩
     rw [← hx] at c1
     rw [← hy] at c2
     have HXY:=Lib.hid (And.intro hx hy)
     have HLT:=Lib.hid hlt
     clear hx hy hlt hk1 hk2 hn9
     cases hl:ltInt x y with
     | false =>
      have HL:=fun w=>Lib.hid (less_u hl w)
      have HG:=Lib.hid (show scanDown (fun x=>!ltInt x d1[a]!) d1 RA (k - 1)=RB by rw [← HE.out,down_go HLT.out hk0];rw [← HXY.out.1,← HXY.out.2,hl] <;> rfl)
      clear hl
      go_wp2_with fail
      go_quiet ((go_at_call 267;exact quiet_u (HL _).out))
      have hs3:=HS2.out.drewN nq
      generalize wr.drewN nq=W at hs3 ⊢
      have HS3:=Lib.hid hs3
      clear hs3 c1 c2 HL z1 z2
      go_wp2_with fail
      go_roundw
      case rel=>exact ⟨k - 1,by go_num,HK.out.1,HK.out.2.1,HS3.out,HG.out⟩
      case measure=>simp [intOf];(have:=HK.out;omega)
     | true =>
      have HL:=fun w=>Lib.hid (less_u hl w)
      have HG:=Lib.hid (show k=RB by rw [← HE.out,down_stop (.inr (by rw [← HXY.out.1,← HXY.out.2,hl] <;> rfl))])
      clear hl
      go_wp2_with fail
      go_quiet ((go_at_call 267;exact quiet_u (HL _).out))
      have hs3:=HS2.out.drewN nq
      generalize wr.drewN nq=W at hs3 ⊢
      have HS3:=Lib.hid hs3
      clear hs3 c1 c2 HL z1 z2
      go_wp2_with fail
      go_meet
      exact ⟨by rw [HG.out],by rw [← HG.out];exact HK.out.2.2.2.1,by rw [← HG.out];exact HK.out.2.2.2.2,HS3.out⟩
    ·have z1:decide ((RA:Int)≤(k:Int))=false:=decide_eq_false (by omega)
     have z2:decide (RA≤k)=false:=decide_eq_false hlt
     have HG:=Lib.hid (show k=RB by rw [← HE.out,down_stop (.inl hlt)])
     have HBS:=Lib.hid (show k<b∧RA≤k + 2 by have:=HIJB.out;omega)
     clear hlt hk1 hk2
     go_wp2_with fail
     go_quiet (fail)
     have hs3:=HS2.out.drewN nq
     generalize wr.drewN nq=W at hs3 ⊢
     have HS3:=Lib.hid hs3
     clear hs3 z1 z2
     go_wp2_with fail
     go_meet
     exact ⟨by rw [HG.out],by rw [← HG.out];exact HBS.out.1,by rw [← HG.out];exact HBS.out.2,HS3.out⟩
  case rest =>
   obtain ⟨rfl,hc1,hc2,hs⟩:=hcut
   have HSB:=Lib.hid hs
   have HIJC:=Lib.hid (show RB<b∧RA≤RB + 2∧a<RA from ⟨hc1,hc2,HIJB.out.1⟩)
   have HBN:=Lib.hid (show RB<n∧RB<1000000 by have:=HB.out;omega)
   clear hc1 hc2 hs
   by_cases hgt:RB<RA
   ·have z1:decide ((RA:Int) > (RB:Int))=true:=decide_eq_true (by omega)
    have z2:decide ((RB:Int)<(RA:Int))=true:=decide_eq_true (by omega)
    have z3:decide (RB<RA)=true:=decide_eq_true hgt
    have HP:=Lib.hid (show partition ltInt d a b v=(RB,true,swp d1 RB a) by
     unfold partition
     have e1:b - 1=j0:=by rw [HBJ.out];rfl
     rw [← HD1.out,e1,← HI0.out]
     simp only
     rw [← HRA.out,← HRB.out]
     rw [if_pos hgt])
    clear hgt
    go_wp2_with fail
    have l1:(RB:Int)<(n:Int):=Int.ofNat_lt.2 HBN.out.1
    have l2:(a:Int)<(n:Int):=Int.ofNat_lt.2 HAN.out
    have c1:=HSB.out.cell HBN.out.1
    have c2:=HSB.out.cell HAN.out
    have f1:=HSB.out.fro (j:=RB)
    have f2:=HSB.out.fro (j:=a)
    obtain ⟨x,hx⟩ : ∃ x,x=d1[RB]!:=⟨_,rfl⟩
    obtain ⟨y,hy⟩ : ∃ y,y=d1[a]!:=⟨_,rfl⟩
    have hs4:=(HSB.out.swap (i:=RB) (j:=a) HBN.out.1 HAN.out).drew
    rw [← hx] at c1 hs4
    rw [← hy] at c2 hs4
    obtain ⟨u,c3⟩:=HSB.out.cell2 (i:=RB) HAN.out (.int .u32 y)
    clear hx hy
    go_wp2_with fail
    go_region
    generalize ((wc.setCell ⟨g,RB,none⟩ (.int .u32 y)).setCell ⟨g,a,none⟩ (.int .u32 x)).drew=W9 at hs4 ⊢
    have HS9:=Lib.hid hs4
    clear hs4 c1 c2 c3 f1 f2 l1 l2
    go_wp2_with fail
    go_returns
    rw [HP.out]
    exact ⟨rfl,HS9.out⟩
   ·have z1:decide ((RA:Int) > (RB:Int))=false:=decide_eq_false (by omega)
    have z2:decide ((RB:Int)<(RA:Int))=false:=decide_eq_false (by omega)
    have z3:decide (RB<RA)=false:=decide_eq_false hgt
    have HAN2:=Lib.hid (show RA<n by have:=HBN.out;omega)
    have HM:=Lib.hid (show a<RA + 1∧RA + 1≤RB - 1 + 2∧RB - 1<b by have:=HIJC.out;omega)
    have ra9:RA<1000000:=by have:=HBN.out;omega
    have rb9:=HBN.out.2
    have rb0:0<RB:=by have:=HIJC.out;omega
    obtain ⟨P,hP⟩ : ∃ q,q=partLoop ltInt a (RA + 1) (RB - 1) (swp d1 RA RB):=⟨_,rfl⟩
    have HPL:=Lib.hid hP
    have HP:=Lib.hid (show partition ltInt d a b v=(P.1,false,swp P.2 P.1 a) by
     unfold partition
     have e1:b - 1=j0:=by rw [HBJ.out];rfl
     rw [← HD1.out,e1,← HI0.out]
     simp only
     rw [← HRA.out,← HRB.out]
     rw [if_neg hgt,← hP])
    clear hgt hP
    have l1:(RA:Int)<(n:Int):=Int.ofNat_lt.2 HAN2.out
    have l2:(RB:Int)<(n:Int):=Int.ofNat_lt.2 HBN.out.1
    have c1:=HSB.out.cell HAN2.out
    have c2:=HSB.out.cell HBN.out.1
    have f1:=HSB.out.fro (j:=RA)
    have f2:=HSB.out.fro (j:=RB)
    obtain ⟨x,hx⟩ : ∃ x,x=d1[RA]!:=⟨_,rfl⟩
    obtain ⟨y,hy⟩ : ∃ y,y=d1[RB]!:=⟨_,rfl⟩
    have hs4:=(HSB.out.swap (i:=RA) (j:=RB) HAN2.out HBN.out.1).drew
    rw [← hx] at c1 hs4
    rw [← hy] at c2 hs4
    obtain ⟨u,c3⟩:=HSB.out.cell2 (i:=RA) HBN.out.1 (.int .u32 y)
    clear hx hy
    go_wp2_with fail
    go_region
    generalize ((wc.setCell ⟨g,RA,none⟩ (.int .u32 y)).setCell ⟨g,RB,none⟩ (.int .u32 x)).drew=W7 at hs4 ⊢
    have HS7:=Lib.hid hs4
    clear hs4 c1 c2 c3 f1 f2 l1 l2
    clear z1 z2 z3
    go_upto_block 4 with fail
    go_cut [10,11] (fun _ vj wx=>vj=.int .i64 (P.1:Int)∧P.1<n∧Sr w0 base g n c P.2 wx)
    case first =>
     go_wp2_with fail
     go_loopw [10,11] (fun vi vj wr=>PaO w0 base g n c a b P vi vj wr) (fun vi vj _=>(intOf vj).toNat + 1 - (intOf vi).toNat)
     case atStart=>exact ⟨RA + 1,RB - 1,swp d1 RA RB,by go_num,by go_num,HM.out.1,HM.out.2.1,HM.out.2.2,HS7.out,HPL.out.symm⟩
     case round =>
      obtain ⟨i,j,dk,rfl,rfl,h1,h2,h3,hs,he⟩:=hrel
      have HE:=Lib.hid he
      have HSC:=Lib.hid hs
      have HIJC:=Lib.hid (show a<i∧i≤j + 2∧j<b from ⟨h1,h2,h3⟩)
      clear he hs h1 h2 h3
      obtain ⟨RC,hRC⟩ : ∃ q:Nat,q=scanUp (fun x=>ltInt x dk[a]!) dk j i:=⟨_,rfl⟩
      have HRC:=Lib.hid hRC
      clear hRC
      go_upto_block 6 with fail
      go_cut [10] (fun v wx=>v=.int .i64 (RC:Int)∧a<RC∧RC≤j + 2∧Sr w0 base g n c dk wx)
      case first =>
       as_aux_lemma =>
       go_wp2_with fail
       go_loopw [10] (fun v wr=>∃ k:Nat,v=.int .i64 (k:Int)∧a<k∧k≤j + 2∧Sr w0 base g n c dk wr∧scanUp (fun x=>ltInt x dk[a]!) dk j k=RC) (fun v _=>j + 1 - (intOf v).toNat)
       case atStart=>exact ⟨i,rfl,HIJC.out.1,HIJC.out.2.1,HSC.out,HRC.out.symm⟩
       case round =>
        obtain ⟨k,rfl,hk1,hk2,hs,he⟩:=hrel
        have HE:=Lib.hid he
        have HS2:=Lib.hid hs
        clear he hs
        by_cases hlt:k≤j
        ·have hn9:k<n∧k<1000000∧0<k:=by have:=HB.out;have:=HIJC.out;omega
         have HK:=Lib.hid (show a<k + 1∧k + 1≤j + 2∧j + 1 - (k + 1)<j + 1 - k∧k≤j + 2∧a<k by have:=HIJC.out;omega)
         have hk9:=hn9.2.1
         have hk0:=hn9.2.2
         have c1:=HS2.out.cell hn9.1
         have c2:=HS2.out.cell HAN.out
         have z1:decide ((k:Int)≤(j:Int))=true:=decide_eq_true (by omega)
         have z2:decide (k≤j)=true:=decide_eq_true hlt
         have l1:(k:Int)<(n:Int):=Int.ofNat_lt.2 hn9.1
         have l2:(a:Int)<(n:Int):=Int.ofNat_lt.2 HAN.out
         obtain ⟨x,hx⟩ : ∃ x,x=dk[k]!:=⟨_,rfl⟩
         obtain ⟨y,hy⟩ : ∃ y,y=dk[a]!:=⟨_,rfl⟩
         rw [← hx] at c1
         rw [← hy] at c2
         have HXY:=Lib.hid (And.intro hx hy)
         have HLT:=Lib.hid hlt
         clear hx hy hlt hk1 hk2 hn9
         cases hl:ltInt x y with
         | true =>
          have HL:=fun w=>Lib.hid (less_u hl w)
          have HG:=Lib.hid (show scanUp (fun x=>ltInt x dk[a]!) dk j (k + 1)=RC by rw [← HE.out,up_go HLT.out];rw [← HXY.out.1,← HXY.out.2,hl] <;> rfl)
          clear hl
          go_wp2_with fail
          go_quiet ((go_at_call 267;exact quiet_u (HL _).out))
          have hs3:=HS2.out.drewN nq
          generalize wr.drewN nq=W at hs3 ⊢
          have HS3:=Lib.hid hs3
          clear hs3 c1 c2 HL z1 z2
          go_wp2_with fail
          go_roundw
          case rel=>exact ⟨k + 1,by go_num,HK.out.1,HK.out.2.1,HS3.out,HG.out⟩
          case measure=>simp [intOf];(have:=HK.out;omega)
         | false =>
          have HL:=fun w=>Lib.hid (less_u hl w)
          have HG:=Lib.hid (show k=RC by rw [← HE.out,up_stop (.inr (by rw [← HXY.out.1,← HXY.out.2,hl] <;> rfl))])
          clear hl
          go_wp2_with fail
          go_quiet ((go_at_call 267;exact quiet_u (HL _).out))
          have hs3:=HS2.out.drewN nq
          generalize wr.drewN nq=W at hs3 ⊢
          have HS3:=Lib.hid hs3
          clear hs3 c1 c2 HL z1 z2
          go_wp2_with fail
          go_meet
          exact ⟨by rw [HG.out],by rw [← HG.out];exact HK.out.2.2.2.2,by rw [← HG.out];exact HK.out.2.2.2.1,HS3.out⟩
        ·have z1:decide ((k:Int)≤(j:Int))=false:=decide_eq_false (by omega)
         have z2:decide (k≤j)=false:=decide_eq_false hlt
         have HG:=Lib.hid (show k=RC by rw [← HE.out,up_stop (.inl hlt)])
         have HBS:=Lib.hid (show a<k∧k≤j + 2 by have:=HIJC.out;omega)
         clear hlt hk1 hk2
         go_wp2_with fail
         go_quiet (fail)
         have hs3:=HS2.out.drewN nq
         generalize wr.drewN nq=W at hs3 ⊢
         have HS3:=Lib.hid hs3
         clear hs3 z1 z2
         go_wp2_with fail
         go_meet
         exact ⟨by rw [HG.out],by rw [← HG.out];exact HBS.out.1,by rw [← HG.out];exact HBS.out.2,HS3.out⟩
      case rest =>
       obtain ⟨rfl,hc1,hc2,hs⟩:=hcut
       have HSD:=Lib.hid hs
       have HIJD:=Lib.hid (show a<RC∧RC≤j + 2∧j<b from ⟨hc1,hc2,HIJC.out.2.2⟩)
       clear hc1 hc2 hs
       obtain ⟨RD,hRD⟩ : ∃ q:Nat,q=scanDown (fun x=>!ltInt x dk[a]!) dk RC j:=⟨_,rfl⟩
       have HRD:=Lib.hid hRD
       clear hRD
       go_upto_block 8 with fail
       go_cut [11] (fun v wx=>v=.int .i64 (RD:Int)∧RD<b∧RC≤RD + 2∧Sr w0 base g n c dk wx)
       case first =>
        as_aux_lemma =>
        go_wp2_with fail
        go_loopw [11] (fun v wr=>∃ k:Nat,v=.int .i64 (k:Int)∧k<b∧RC≤k + 2∧Sr w0 base g n c dk wr∧scanDown (fun x=>!ltInt x dk[a]!) dk RC k=RD) (fun v _=>(intOf v).toNat)
        case atStart=>exact ⟨j,rfl,HIJD.out.2.2,HIJD.out.2.1,HSD.out,HRD.out.symm⟩
        case round =>
         obtain ⟨k,rfl,hk1,hk2,hs,he⟩:=hrel
         have HE:=Lib.hid he
         have HS2:=Lib.hid hs
         clear he hs
         by_cases hlt:RC≤k
         ·have hn9:k<n∧k<1000000∧0<k:=by have:=HB.out;have:=HIJD.out;omega
          have HK:=Lib.hid (show k - 1<b∧RC≤k - 1 + 2∧k - 1<k∧k<b∧RC≤k + 2 by have:=HIJD.out;omega)
          have hk9:=hn9.2.1
          have hk0:=hn9.2.2
          have c1:=HS2.out.cell hn9.1
          have c2:=HS2.out.cell HAN.out
          have z1:decide ((RC:Int)≤(k:Int))=true:=decide_eq_true (by omega)
          have z2:decide (RC≤k)=true:=decide_eq_true hlt
          have l1:(k:Int)<(n:Int):=Int.ofNat_lt.2 hn9.1
          have l2:(a:Int)<(n:Int):=Int.ofNat_lt.2 HAN.out
          obtain ⟨x,hx⟩ : ∃ x,x=dk[k]!:=⟨_,rfl⟩
          obtain ⟨y,hy⟩ : ∃ y,y=dk[a]!:=⟨_,rfl⟩
          rw [← hx] at c1
          rw [← hy] at c2
          have HXY:=Lib.hid (And.intro hx hy)
          have HLT:=Lib.hid hlt
          clear hx hy hlt hk1 hk2 hn9
          cases hl:ltInt x y with
          | false =>
           have HL:=fun w=>Lib.hid (less_u hl w)
           have HG:=Lib.hid (show scanDown (fun x=>!ltInt x dk[a]!) dk RC (k - 1)=RD by rw [← HE.out,down_go HLT.out hk0];rw [← HXY.out.1,← HXY.out.2,hl] <;> rfl)
           clear hl
           go_wp2_with fail
           go_quiet ((go_at_call 267;exact quiet_u (HL _).out))
           have hs3:=HS2.out.drewN nq
           generalize wr.drewN nq=W at hs3 ⊢
           have HS3:=Lib.hid hs3
           clear hs3 c1 c2 HL z1 z2
           go_wp2_with fail
           go_roundw
           case rel=>exact ⟨k - 1,by go_num,HK.out.1,HK.out.2.1,HS3.out,HG.out⟩
           case measure=>simp [intOf];(have:=HK.out;omega)
          | true =>
           have HL:=fun w=>Lib.hid (less_u hl w)
           have HG:=Lib.hid (show k=RD by rw [← HE.out,down_stop (.inr (by rw [← HXY.out.1,← HXY.out.2,hl] <;> rfl))])
           clear hl
           go_wp2_with fail
           go_quiet ((go_at_call 267;exact quiet_u (HL _).out))
           have hs3:=HS2.out.drewN nq
           generalize wr.drewN nq=W at hs3 ⊢
           have HS3:=Lib.hid hs3
           clear hs3 c1 c2 HL z1 z2
           go_wp2_with fail
           go_meet
           exact ⟨by rw [HG.out],by rw [← HG.out];exact HK.out.2.2.2.1,by rw [← HG.out];exact HK.out.2.2.2.2,HS3.out⟩
         ·have z1:decide ((RC:Int)≤(k:Int))=false:=decide_eq_false (by omega)
          have z2:decide (RC≤k)=false:=decide_eq_false hlt
          have HG:=Lib.hid (show k=RD by rw [← HE.out,down_stop (.inl hlt)])
          have HBS:=Lib.hid (show k<b∧RC≤k + 2 by have:=HIJD.out;omega)
          clear hlt hk1 hk2
          go_wp2_with fail
          go_quiet (fail)
          have hs3:=HS2.out.drewN nq
          generalize wr.drewN nq=W at hs3 ⊢
          have HS3:=Lib.hid hs3
          clear hs3 z1 z2
          go_wp2_with fail
          go_meet
          exact ⟨by rw [HG.out],by rw [← HG.out];exact HBS.out.1,by rw [← HG.out];exact HBS.out.2,HS3.out⟩
       case rest =>
        obtain ⟨rfl,hc1,hc2,hs⟩:=hcut
        have HSE:=Lib.hid hs
        have HIJE:=Lib.hid (show RD<b∧RC≤RD + 2∧a<RC from ⟨hc1,hc2,HIJD.out.1⟩)
        have HBN:=Lib.hid (show RD<n∧RD<1000000 by have:=HB.out;omega)
        clear hc1 hc2 hs
        by_cases hgt:RD<RC
        ·have z1:decide ((RC:Int) > (RD:Int))=true:=decide_eq_true (by omega)
         have z2:decide ((RD:Int)<(RC:Int))=true:=decide_eq_true (by omega)
         have z3:decide (RD<RC)=true:=decide_eq_true hgt
         have HQ:=Lib.hid (show (RD,dk)=P by rw [← HE.out,partLoop_eq,← HRC.out,← HRD.out,if_pos hgt])
         clear hgt
         go_wp2_with fail
         go_meet
         rw [← HQ.out]
         exact ⟨rfl,HBN.out.1,HSE.out⟩
        ·have z1:decide ((RC:Int) > (RD:Int))=false:=decide_eq_false (by omega)
         have z2:decide ((RD:Int)<(RC:Int))=false:=decide_eq_false (by omega)
         have z3:decide (RD<RC)=false:=decide_eq_false hgt
         have HQ:=Lib.hid (show partLoop ltInt a (RC + 1) (RD - 1) (swp dk RC RD)=P by rw [← HE.out,partLoop_eq ltInt a i j,← HRC.out,← HRD.out,if_neg hgt])
         have HAN2:=Lib.hid (show RC<n by have:=HBN.out;omega)
         have HM:=Lib.hid (show a<RC + 1∧RC + 1≤RD - 1 + 2∧RD - 1<b∧RD - 1 + 1 - (RC + 1)<j + 1 - i by
          have:=HIJE.out
          have e1:=scanUp_ge (fun x=>ltInt x dk[a]!) dk j i
          have e2:=scanDown_le (fun x=>!ltInt x dk[a]!) dk RC j
          rw [← HRC.out] at e1
          rw [← HRD.out] at e2
          omega)
         have rc9:RC<1000000:=by have:=HBN.out;omega
         have rd9:=HBN.out.2
         have rd0:0<RD:=by have:=HIJE.out;omega
         clear hgt
         have l1:(RC:Int)<(n:Int):=Int.ofNat_lt.2 HAN2.out
         have l2:(RD:Int)<(n:Int):=Int.ofNat_lt.2 HBN.out.1
         have c1:=HSE.out.cell HAN2.out
         have c2:=HSE.out.cell HBN.out.1
         have f1:=HSE.out.fro (j:=RC)
         have f2:=HSE.out.fro (j:=RD)
         obtain ⟨x,hx⟩ : ∃ x,x=dk[RC]!:=⟨_,rfl⟩
         obtain ⟨y,hy⟩ : ∃ y,y=dk[RD]!:=⟨_,rfl⟩
         have hs4:=(HSE.out.swap (i:=RC) (j:=RD) HAN2.out HBN.out.1).drew
         rw [← hx] at c1 hs4
         rw [← hy] at c2 hs4
         obtain ⟨u,c3⟩:=HSE.out.cell2 (i:=RC) HBN.out.1 (.int .u32 y)
         clear hx hy
         go_wp2_with fail
         go_region
         generalize ((wc.setCell ⟨g,RC,none⟩ (.int .u32 y)).setCell ⟨g,RD,none⟩ (.int .u32 x)).drew=W8 at hs4 ⊢
         have HS8:=Lib.hid hs4
         clear hs4 c1 c2 c3 f1 f2 l1 l2
         clear z1 z2 z3
         go_wp2_with fail
         go_roundw
         case rel=>exact ⟨RC + 1,RD - 1,swp dk RC RD,by go_num,by go_num,HM.out.1,HM.out.2.1,HM.out.2.2.1,HS8.out,HQ.out⟩
         case measure=>simp [intOf];(have:=HM.out;omega)
    case rest =>
     obtain ⟨rfl,hpn,hs⟩:=hcut
     have HSF:=Lib.hid hs
     have HPN:=Lib.hid hpn
     obtain ⟨p,D⟩:=P
     simp only at HSF HPN
     clear hs hpn
     have l1:(p:Int)<(n:Int):=Int.ofNat_lt.2 HPN.out
     have l2:(a:Int)<(n:Int):=Int.ofNat_lt.2 HAN.out
     have c1:=HSF.out.cell HPN.out
     have c2:=HSF.out.cell HAN.out
     have f1:=HSF.out.fro (j:=p)
     have f2:=HSF.out.fro (j:=a)
     obtain ⟨x,hx⟩ : ∃ x,x=D[p]!:=⟨_,rfl⟩
     obtain ⟨y,hy⟩ : ∃ y,y=D[a]!:=⟨_,rfl⟩
     have hs4:=(HSF.out.swap (i:=p) (j:=a) HPN.out HAN.out).drew
     rw [← hx] at c1 hs4
     rw [← hy] at c2 hs4
     obtain ⟨u,c3⟩:=HSF.out.cell2 (i:=p) HAN.out (.int .u32 y)
     clear hx hy
     go_wp2_with fail
     go_region
     generalize ((wc.setCell ⟨g,p,none⟩ (.int .u32 y)).setCell ⟨g,a,none⟩ (.int .u32 x)).drew=W9 at hs4 ⊢
     have HS9:=Lib.hid hs4
     clear hs4 c1 c2 c3 f1 f2 l1 l2
     go_wp2_with fail
     go_returns
     rw [HP.out]
     exact ⟨rfl,HS9.out⟩
end Go.Proofs.YtlgdcelgkiipaaaGreat.Ls
