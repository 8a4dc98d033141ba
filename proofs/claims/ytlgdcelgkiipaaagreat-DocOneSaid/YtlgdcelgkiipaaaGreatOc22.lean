/-
  slices.partitionEqualOrdered at uint32. Conditions: rows of at most a million.
  slices.breakPatternsOrdered at uint32. Conditions: rows of at most a million.
  A round of slices.pdqsortOrdered in plain words, at fewer than fifty. Conditions: those that each states.
-/
import Derived.Test.YtlgdcelgkiipaaaGreatOc21
import Derived.Test.YtlgdcelgkiipaaaGreatShelf
import Derived.Test.YtlgdcelgkiipaaaGreatOc20
import Derived.Deep.CutBlock
import Derived.Deep.DeepCutAuto
set_option maxRecDepth 100000
set_option linter.unusedVariables false
namespace Go.Proofs.YtlgdcelgkiipaaaGreat.Ls
open Go.RowKit Go.Sort
def PqO (w0:World) (base g n c a b:Nat) (R:Nat × Array Int) (vi vj:Value) (w:World):Prop:=∃ (i j:Nat) (dk:Array Int),vi=.int .i64 (i:Int)∧vj=.int .i64 (j:Int)∧a<i∧i≤j + 2∧j<b∧Sr w0 base g n c dk w∧partEqLoop ltInt a i j dk=R
set_option maxHeartbeats 4000000 in
theorem partEqual_u {w0 w:World} {base g n c a b v:Nat} {d:Array Int} (h:Sr w0 base g n c d w) (hav:a≤v) (hvb:v<b) (hb:b≤n) (hn:n≤1000000) :
  Calls Tryz.prog 268 #[.slice (some ⟨g,0,none⟩) n c,.int .i64 (a:Int),.int .i64 (b:Int),.int .i64 (v:Int)] w fun e w'=>e=.returned (.int .i64 ((partitionEqual ltInt d a b v).1:Int))∧Sr w0 base g n c (partitionEqual ltInt d a b v).2 w':=by
 have HS0:=Lib.hid h
 have HB:=Lib.hid (show b≤n∧n≤1000000 from ⟨hb,hn⟩)
 have HAN:=Lib.hid (show a<n by omega)
 have HVN:=Lib.hid (show v<n by omega)
 have ha9:a<1000000:=by omega
 obtain ⟨j0,rfl⟩ : ∃ q,b=q + 1:=⟨b - 1,by omega⟩
 have hj9:j0<1000000:=by omega
 obtain ⟨b,hbj⟩ : ∃ b,b=j0 + 1:=⟨_,rfl⟩
 have HBJ:=Lib.hid hbj
 rw [← hbj] at HB ⊢
 have HIJA:=Lib.hid (show a<a + 1∧a + 1≤j0 + 2∧j0<b by omega)
 have EJ:=Lib.hid (show wrap64 ((b:Int) - 1)=(j0:Int) from wr4 (a:=1) (by omega) (by omega))
 clear h hav hvb hb hn hbj
 obtain ⟨P,hP⟩ : ∃ q,q=partitionEqual ltInt d a b v:=⟨_,rfl⟩
 rw [← hP]
 have HPQ:=Lib.hid hP
 clear hP
 go_enter Tryz.func268,Tryz.ntmps268
 go_wp2_with fail
 have l1:(a:Int)<(n:Int):=Int.ofNat_lt.2 HAN.out
 have l2:(v:Int)<(n:Int):=Int.ofNat_lt.2 HVN.out
 have c1:=HS0.out.cell HAN.out
 have c2:=HS0.out.cell HVN.out
 have f1:=HS0.out.fro (j:=a)
 have f2:=HS0.out.fro (j:=v)
 obtain ⟨x,hx⟩ : ∃ x,x=d[a]!:=⟨_,rfl⟩
 obtain ⟨y,hy⟩ : ∃ y,y=d[v]!:=⟨_,rfl⟩
 have hs4:=(HS0.out.swap (i:=a) (j:=v) HAN.out HVN.out).drew
 rw [← hx] at c1 hs4
 rw [← hy] at c2 hs4
 obtain ⟨u,c3⟩:=HS0.out.cell2 (i:=a) HVN.out (.int .u32 y)
 clear hx hy
 go_wp2_with fail
 go_region
 generalize ((w.setCell ⟨g,a,none⟩ (.int .u32 y)).setCell ⟨g,v,none⟩ (.int .u32 x)).drew=W1 at hs4 ⊢
 have HS1:=Lib.hid hs4
 clear hs4 c1 c2 c3 f1 f2 l1 l2
 obtain ⟨d1,hd1⟩ : ∃ q,q=swp d a v:=⟨_,rfl⟩
 rw [← hd1] at HS1
 have HD1:=Lib.hid hd1
 have HP:=Lib.hid (show partEqLoop ltInt a (a + 1) j0 d1=P by
  rw [HPQ.out]
  unfold partitionEqual
  rw [HBJ.out,hd1];rfl)
 clear hd1
 go_upto_block 0 with fail
 rw [EJ.out]
 go_cut [9] (fun vi wx=>vi=.int .i64 (P.1:Int)∧Sr w0 base g n c P.2 wx)
 case first =>
  go_wp2_with fail
  go_loopw [9,10] (fun vi vj wr=>PqO w0 base g n c a b P vi vj wr) (fun vi vj _=>(intOf vj).toNat + 1 - (intOf vi).toNat)
  case atStart=>exact ⟨a + 1,j0,d1,by first | rfl | go_num,rfl,HIJA.out.1,HIJA.out.2.1,HIJA.out.2.2,HS1.out,HP.out⟩
  case round =>
   obtain ⟨i,j,dk,rfl,rfl,h1,h2,h3,hs,he⟩:=hrel
   have HE:=Lib.hid he
   have HSC:=Lib.hid hs
   have HIJC:=Lib.hid (show a<i∧i≤j + 2∧j<b from ⟨h1,h2,h3⟩)
   clear he hs h1 h2 h3
   obtain ⟨RC,hRC⟩ : ∃ q:Nat,q=scanUp (fun x=>!ltInt dk[a]! x) dk j i:=⟨_,rfl⟩
   have HRC:=Lib.hid hRC
   clear hRC
   go_upto_block 2 with fail
   go_cut [9] (fun v wx=>v=.int .i64 (RC:Int)∧a<RC∧RC≤j + 2∧Sr w0 base g n c dk wx)
   case first =>
    as_aux_lemma =>
    go_wp2_with fail
    go_loopw [9] (fun v wr=>∃ k:Nat,v=.int .i64 (k:Int)∧a<k∧k≤j + 2∧Sr w0 base g n c dk wr∧scanUp (fun x=>!ltInt dk[a]! x) dk j k=RC) (fun v _=>j + 1 - (intOf v).toNat)
    case atStart=>exact ⟨i,rfl,HIJC.out.1,HIJC.out.2.1,HSC.out,HRC.out.symm⟩
    case round =>
     obtain ⟨k,rfl,hk1,hk2,hs,he⟩:=hrel
     have HE:=Lib.hid he
     have HS2:=Lib.hid hs
     clear he hs
     by_cases hlt:k≤j
     ·have hn9:k<n∧k<1000000∧0<k:=by have:=HB.out;have:=HIJC.out;omega
      have HK:=Lib.hid (show a<k + 1∧k + 1≤j + 2∧j + 1 - (k + 1)<j + 1 - k∧k≤j + 2∧a<k by have:=HIJC.out;omega)
      have hk9:=hn9.2.1
      have hk0:=hn9.2.2
      have c1:=HS2.out.cell hn9.1
      have c2:=HS2.out.cell HAN.out
      have z1:decide ((k:Int)≤(j:Int))=true:=decide_eq_true (by omega)
      have z2:decide (k≤j)=true:=decide_eq_true hlt
      have l1:(k:Int)<(n:Int):=Int.ofNat_lt.2 hn9.1
      have l2:(a:Int)<(n:Int):=Int.ofNat_lt.2 HAN.out
      obtain ⟨x,hx⟩ : ∃ x,x=dk[k]!:=⟨_,rfl⟩
      obtain ⟨y,hy⟩ : ∃ y,y=dk[a]!:=⟨_,rfl⟩
      rw [← hx] at c1
      rw [← hy] at c2
      have HXY:=Lib.hid (And.intro hx hy)
      have HLT:=Lib.hid hlt
      clear hx hy hlt hk1 hk2 hn9
      cases hl:ltInt y x with
      | false =>
       have HL:=fun w=>Lib.hid (less_u hl w)
       have HG:=Lib.hid (show scanUp (fun x=>!ltInt dk[a]! x) dk j (k + 1)=RC by rw [← HE.out,up_go HLT.out];rw [← HXY.out.1,← HXY.out.2,hl] <;> rfl)
       clear hl
       go_wp2_with fail
       go_quiet ((go_at_call 267;exact quiet_u (HL _).out))
       have hs3:=HS2.out.drewN nq
       generalize wr.drewN nq=W at hs3 ⊢
       have HS3:=Lib.hid hs3
       clear hs3 c1 c2 HL z1 z2
       go_wp2_with fail
       go_roundw
       case rel=>exact ⟨k + 1,by go_num,HK.out.1,HK.out.2.1,HS3.out,HG.out⟩
       case measure=>simp [intOf];(have:=HK.out;omega)
      | true =>
       have HL:=fun w=>Lib.hid (less_u hl w)
       have HG:=Lib.hid (show k=RC by rw [← HE.out,up_stop (.inr (by rw [← HXY.out.1,← HXY.out.2,hl] <;> rfl))])
       clear hl
       go_wp2_with fail
       go_quiet ((go_at_call 267;exact quiet_u (HL _).out))
       have hs3:=HS2.out.drewN nq
       generalize wr.drewN nq=W at hs3 ⊢
       have HS3:=Lib.hid hs3
       clear hs3 c1 c2 HL z1 z2
       go_wp2_with fail
       go_meet
       exact ⟨by rw [HG.out],by rw [← HG.out];exact HK.out.2.2.2.2,by rw [← HG.out];exact HK.out.2.2.2.1,HS3.out⟩
     ·have z1:decide ((k:Int)≤(j:Int))=false:=decide_eq_false (by omega)
      have z2:decide (k≤j)=false:=decide_eq_false hlt
      have HG:=Lib.hid (show k=RC by rw [← HE.out,up_stop (.inl hlt)])
      have HBS:=Lib.hid (show a<k∧k≤j + 2 by have:=HIJC.out;omega)
      clear hlt hk1 hk2
      go_wp2_with fail
      go_quiet (fail)
      have hs3:=HS2.out.drewN nq
      generalize wr.drewN nq=W at hs3 ⊢
      have HS3:=Lib.hid hs3
      clear hs3 z1 z2
      go_wp2_with fail
      go_meet
      exact ⟨by rw [HG.out],by rw [← HG.out];exact HBS.out.1,by rw [← HG.out];exact HBS.out.2,HS3.out⟩
   case rest =>
    obtain ⟨rfl,hc1,hc2,hs⟩:=hcut
    have HSD:=Lib.hid hs
    have HIJD:=Lib.hid (show a<RC∧RC≤j + 2∧j<b from ⟨hc1,hc2,HIJC.out.2.2⟩)
    clear hc1 hc2 hs
    obtain ⟨RD,hRD⟩ : ∃ q:Nat,q=scanDown (fun x=>ltInt dk[a]! x) dk RC j:=⟨_,rfl⟩
    have HRD:=Lib.hid hRD
    clear hRD
    go_upto_block 4 with fail
    go_cut [10] (fun v wx=>v=.int .i64 (RD:Int)∧RD<b∧RC≤RD + 2∧Sr w0 base g n c dk wx)
    case first =>
     as_aux_lemma =>
     go_wp2_with fail
     go_loopw [10] (fun v wr=>∃ k:Nat,v=.int .i64 (k:Int)∧k<b∧RC≤k + 2∧Sr w0 base g n c dk wr∧scanDown (fun x=>ltInt dk[a]! x) dk RC k=RD) (fun v _=>(intOf v).toNat)
     case atStart=>exact ⟨j,rfl,HIJD.out.2.2,HIJD.out.2.1,HSD.out,HRD.out.symm⟩
     case round =>
      obtain ⟨k,rfl,hk1,hk2,hs,he⟩:=hrel
      have HE:=Lib.hid he
      have HS2:=Lib.hid hs
      clear he hs
      by_cases hlt:RC≤k
      ·have hn9:k<n∧k<1000000∧0<k:=by have:=HB.out;have:=HIJD.out;omega
       have HK:=Lib.hid (show k - 1<b∧RC≤k - 1 + 2∧k - 1<k∧k<b∧RC≤k + 2 by have:=HIJD.out;omega)
       have hk9:=hn9.2.1
       have hk0:=hn9.2.2
       have c1:=HS2.out.cell hn9.1
       have c2:=HS2.out.cell HAN.out
       have z1:decide ((RC:Int)≤(k:Int))=true:=decide_eq_true (by omega)
       have z2:decide (RC≤k)=true:=decide_eq_true hlt
       have l1:(k:Int)<(n:Int):=Int.ofNat_lt.2 hn9.1
       have l2:(a:Int)<(n:Int):=Int.ofNat_lt.2 HAN.out
       obtain ⟨x,hx⟩ : ∃ x,x=dk[k]!:=⟨_,rfl⟩
       obtain ⟨y,hy⟩ : ∃ y,y=dk[a]!:=⟨_,rfl⟩
       rw [← hx] at c1
       rw [← hy] at c2
       have HXY:=Lib.hid (And.intro hx hy)
       have HLT:=Lib.hid hlt
       clear hx hy hlt hk1 hk2 hn9
       cases hl:ltInt y x with
       | true =>
        have HL:=fun w=>Lib.hid (less_u hl w)
        have HG:=Lib.hid (show scanDown (fun x=>ltInt dk[a]! x) dk RC (k - 1)=RD by rw [← HE.out,down_go HLT.out hk0];rw [← HXY.out.1,← HXY.out.2,hl] <;> rfl)
        clear hl
        go_wp2_with fail
        go_quiet ((go_at_call 267;exact quiet_u (HL _).out))
        have hs3:=HS2.out.drewN nq
        generalize wr.drewN nq=W at hs3 ⊢
        have HS3:=Lib.hid hs3
        clear hs3 c1 c2 HL z1 z2
        go_wp2_with fail
        go_roundw
        case rel=>exact ⟨k - 1,by go_num,HK.out.1,HK.out.2.1,HS3.out,HG.out⟩
        case measure=>simp [intOf];(have:=HK.out;omega)
       | false =>
        have HL:=fun w=>Lib.hid (less_u hl w)
        have HG:=Lib.hid (show k=RD by rw [← HE.out,down_stop (.inr (by rw [← HXY.out.1,← HXY.out.2,hl] <;> rfl))])
        clear hl
        go_wp2_with fail
        go_quiet ((go_at_call 267;exact quiet_u (HL _).out))
        have hs3:=HS2.out.drewN nq
        generalize wr.drewN nq=W at hs3 ⊢
        have HS3:=Lib.hid hs3
        clear hs3 c1 c2 HL z1 z2
        go_wp2_with fail
        go_meet
        exact ⟨by rw [HG.out],by rw [← HG.out];exact HK.out.2.2.2.1,by rw [← HG.out];exact HK.out.2.2.2.2,HS3.out⟩
      ·have z1:decide ((RC:Int)≤(k:Int))=false:=decide_eq_false (by omega)
       have z2:decide (RC≤k)=false:=decide_eq_false hlt
       have HG:=Lib.hid (show k=RD by rw [← HE.out,down_stop (.inl hlt)])
       have HBS:=Lib.hid (show k<b∧RC≤k + 2 by have:=HIJD.out;omega)
       clear hlt hk1 hk2
       go_wp2_with fail
       go_quiet (fail)
       have hs3:=HS2.out.drewN nq
       generalize wr.drewN nq=W at hs3 ⊢
       have HS3:=Lib.hid hs3
       clear hs3 z1 z2
       go_wp2_with fail
       go_meet
       exact ⟨by rw [HG.out],by rw [← HG.out];exact HBS.out.1,by rw [← HG.out];exact HBS.out.2,HS3.out⟩
    case rest =>
     obtain ⟨rfl,hc1,hc2,hs⟩:=hcut
     have HSE:=Lib.hid hs
     have HIJE:=Lib.hid (show RD<b∧RC≤RD + 2∧a<RC from ⟨hc1,hc2,HIJD.out.1⟩)
     have HBN:=Lib.hid (show RD<n∧RD<1000000 by have:=HB.out;omega)
     clear hc1 hc2 hs
     by_cases hgt:RD<RC
     ·have z1:decide ((RC:Int) > (RD:Int))=true:=decide_eq_true (by omega)
      have z2:decide ((RD:Int)<(RC:Int))=true:=decide_eq_true (by omega)
      have z3:decide (RD<RC)=true:=decide_eq_true hgt
      have HQ:=Lib.hid (show (RC,dk)=P by rw [← HE.out,partEqLoop_eq,← HRC.out,← HRD.out,if_pos hgt])
      clear hgt
      go_wp2_with fail
      go_meet
      rw [← HQ.out]
      exact ⟨rfl,HSE.out⟩
     ·have z1:decide ((RC:Int) > (RD:Int))=false:=decide_eq_false (by omega)
      have z2:decide ((RD:Int)<(RC:Int))=false:=decide_eq_false (by omega)
      have z3:decide (RD<RC)=false:=decide_eq_false hgt
      have HQ:=Lib.hid (show partEqLoop ltInt a (RC + 1) (RD - 1) (swp dk RC RD)=P by rw [← HE.out,partEqLoop_eq ltInt a i j,← HRC.out,← HRD.out,if_neg hgt])
      have HAN2:=Lib.hid (show RC<n by have:=HBN.out;omega)
      have HM:=Lib.hid (show a<RC + 1∧RC + 1≤RD - 1 + 2∧RD - 1<b∧RD - 1 + 1 - (RC + 1)<j + 1 - i by
       have:=HIJE.out
       have e1:=scanUp_ge (fun x=>!ltInt dk[a]! x) dk j i
       have e2:=scanDown_le (fun x=>ltInt dk[a]! x) dk RC j
       rw [← HRC.out] at e1
       rw [← HRD.out] at e2
       omega)
      have rc9:RC<1000000:=by have:=HBN.out;omega
      have rd9:=HBN.out.2
      have rd0:0<RD:=by have:=HIJE.out;omega
      clear hgt
      have l1:(RC:Int)<(n:Int):=Int.ofNat_lt.2 HAN2.out
      have l2:(RD:Int)<(n:Int):=Int.ofNat_lt.2 HBN.out.1
      have c1:=HSE.out.cell HAN2.out
      have c2:=HSE.out.cell HBN.out.1
      have f1:=HSE.out.fro (j:=RC)
      have f2:=HSE.out.fro (j:=RD)
      obtain ⟨x,hx⟩ : ∃ x,x=dk[RC]!:=⟨_,rfl⟩
      obtain ⟨y,hy⟩ : ∃ y,y=dk[RD]!:=⟨_,rfl⟩
      have hs4:=(HSE.out.swap (i:=RC) (j:=RD) HAN2.out HBN.out.1).drew
      rw [← hx] at c1 hs4
      rw [← hy] at c2 hs4
      obtain ⟨u,c3⟩:=HSE.out.cell2 (i:=RC) HBN.out.1 (.int .u32 y)
      clear hx hy
      go_wp2_with fail
      go_region
      generalize ((wc.setCell ⟨g,RC,none⟩ (.int .u32 y)).setCell ⟨g,RD,none⟩ (.int .u32 x)).drew=W8 at hs4 ⊢
      have HS8:=Lib.hid hs4
      clear hs4 c1 c2 c3 f1 f2 l1 l2
      clear z1 z2 z3
      go_wp2_with fail
      go_roundw
      case rel=>exact ⟨RC + 1,RD - 1,swp dk RC RD,by go_num,by go_num,HM.out.1,HM.out.2.1,HM.out.2.2.1,HS8.out,HQ.out⟩
      case measure=>simp [intOf];(have:=HM.out;omega)
 case rest =>
  obtain ⟨rfl,hs⟩:=hcut
  have HSF:=Lib.hid hs
  clear hs
  go_wp2_with fail
  go_ret
  exact ⟨rfl,HSF.out⟩
open Go.RowKit Go.Sort Go.Shelf
def bpSt (a L M i0:Nat) (d:Array Int):Nat→UInt64 × Array Int
 | 0=>(UInt64.ofNat L,d)
 | t + 1=>breakStep a L M (bpSt a L M i0 d t) (i0 + t)
theorem wr7 {a q:Nat} (ha:a<1000000) (hq:q<1000001) (h1:0<q):wrap64 (wrap64 ((a:Int) + wrap64 (wrap64 (q:Int) * 2)) - 1)=((a + q * 2 - 1:Nat):Int):=by unfold wrap64;omega
theorem wr8 {a q:Nat} (ha:a<1000000) (hq:q<1000001):wrap64 (wrap64 ((a:Int) + wrap64 (wrap64 (q:Int) * 2)) + 1)=((a + q * 2 + 1:Nat):Int):=by unfold wrap64;omega
theorem wr9 {M M1:Nat} (h:M<3000000) (e:M=1 + M1):IntKind.u64.wrap ((M:Int) - 1)=(M1:Int):=by rw [IntKind.wrap_u64];omega
theorem wr10 {a o P:Nat} (h:P=a + o) (hp:P<4000000):wrap64 ((a:Int) + (o:Int))=(P:Int):=by unfold wrap64;omega
theorem wr11 {a o P:Nat} (h:P=a + o) (hp:P<4000000):IntKind.i64.wrap ((a:Int) + (o:Int))=(P:Int):=by rw [IntKind.wrap_i64];omega
theorem break_is {d:Array Int} {a L:Nat} (h:8≤L):breakPatterns d a (a + L)=(bpSt a L (1 <<< bitsLen L) (a + L / 4 * 2 - 1) d 3).2:=by
 unfold breakPatterns
 simp only [Nat.add_sub_cancel_left,ge_iff_le,h,if_true,bpSt,Nat.add_zero]
structure Rn (w0:World) (base g n c:Nat) (d:Array Int) (k X:Nat) (w:World):Prop where
 row:Sr w0 base g n c d w
 blk:w.heap[k]?=some (.cells #[.int .u64 (X:Int)] 307 (0,0))
 new:w0.heap.size≤k
 ne:k≠g
section
variable {w0 w w':World} {base g n c k X:Nat} {d:Array Int}
theorem Rn.cell (h:Rn w0 base g n c d k X w):w.cell? ⟨k,0,none⟩=some (.int .u64 (X:Int)):=cell0 (r:=[]) h.blk
theorem Rn.fro (h:Rn w0 base g n c d k X w):w.frozen? ⟨k,0,none⟩=false:=frozen_of_row w k 0 _ _ h.blk
theorem Rn.next (h:Rn w0 base g n c d k X w) (Y q:Nat):Rn w0 base g n c d k Y ((w.setCell ⟨k,0,none⟩ (.int .u64 (Y:Int))).drewN q) :=
 ⟨(h.row.tn_ (T:=fun i=>i=k) ((Tn.refl (fun i=>i=k) w).set_ (p:=⟨k,0,none⟩) (Or.inr rfl) _) (fun b hb e=>by have:=h.new;omega) (fun e=>h.ne e.symm)).drewN q,blk_set h.blk _,h.new,h.ne⟩
theorem Rn.swap (h:Rn w0 base g n c d k X w) {i j:Nat} (hi:i<n) (hj:j<n):Rn w0 base g n c (swp d i j) k X ((w.setCell ⟨g,i,none⟩ (.int .u32 d[j]!)).setCell ⟨g,j,none⟩ (.int .u32 d[i]!)).drew :=
 ⟨(h.row.swap hi hj).drew,by
  show ((w.setCell ⟨g,i,none⟩ (.int .u32 d[j]!)).setCell ⟨g,j,none⟩ (.int .u32 d[i]!)).heap[k]?=_
  rw [blk_keep _ h.ne,blk_keep _ h.ne];exact h.blk,h.new,h.ne⟩
end
def BpO (w0:World) (base g n c k a L M i0:Nat) (d:Array Int) (v:Value) (w:World):Prop:=∃ t:Nat,v=.int .i64 ((i0 + t:Nat):Int)∧t≤3∧Rn w0 base g n c (bpSt a L M i0 d t).2 k (bpSt a L M i0 d t).1.toNat w
set_option maxHeartbeats 4000000 in
theorem break_u {w0 w:World} {base g n c a L:Nat} {d:Array Int} (h:Sr w0 base g n c d w) (hw:w0.heap.size≤w.heap.size) (hL:8≤L) (hb:a + L≤n) (hn:n≤1000000) :
  Calls Tryz.prog 263 #[.slice (some ⟨g,0,none⟩) n c,.int .i64 (a:Int),.int .i64 ((a + L:Nat):Int)] w fun e w'=>e=.returned (.tuple #[])∧Sr w0 base g n c (breakPatterns d a (a + L)) w':=by
 rw [break_is hL]
 obtain ⟨M,hM⟩ : ∃ M,M=1 <<< bitsLen L:=⟨_,rfl⟩
 have hP:∀ w,Calls Tryz.prog 273 #[.int .i64 (L:Int)] w fun e w'=>e=.returned (.int .u64 ((1 <<< bitsLen L:Nat):Int))∧w'=w:=fun w=>AnyF.nextPowerOfTwo Tryz.laysPow L (by omega) w
 rw [← hM] at hP ⊢
 have HP:=Lib.hid hP
 obtain ⟨q,hq⟩ : ∃ q,q=L / 4:=⟨_,rfl⟩
 obtain ⟨i0,hi0⟩ : ∃ q,q=a + L / 4 * 2 - 1:=⟨_,rfl⟩
 rw [← hi0]
 obtain ⟨b,hbb⟩ : ∃ b,b=a + L:=⟨_,rfl⟩
 rw [← hbb]
 have hL9:L<1000001:=by omega
 have hL8:L<1000001:=by omega
 have e1:=wr4 (a:=a) (b:=b) (L:=L) hL8 hbb
 have e2:=wr5 hq
 have hwu:IntKind.u64.wrap (L:Int)=(L:Int):=by rw [IntKind.wrap_u64];omega
 have g1:decide ((L:Int)≥8)=true:=decide_eq_true (by omega)
 have g3:decide ((8:Int)≤(L:Int))=true:=decide_eq_true (by omega)
 have g5:decide (8≤L)=true:=decide_eq_true (by omega)
 have HH:=Lib.hid h
 have HN:=Lib.hid (show a + L≤n∧n≤1000000∧8≤L∧q=L / 4∧i0=a + L / 4 * 2 - 1∧b=a + L from ⟨hb,hn,hL,hq,hi0,hbb⟩)
 have HM:=Lib.hid (show M≤2 * L∧1≤M by
  rw [hM,Nat.one_shiftLeft]
  exact ⟨two_pow_bitsLen_le (by omega),Nat.one_le_two_pow⟩)
 obtain ⟨E,hE⟩ : ∃ E,E=a + q * 2 + 1:=⟨_,rfl⟩
 have HE:=Lib.hid hE
 have HE8:=Lib.hid (show wrap64 (wrap64 ((a:Int) + wrap64 (wrap64 (q:Int) * 2)) + 1)=(E:Int) by rw [hE];exact wr8 (by omega) (by omega))
 have HX0:=Lib.hid (show wrap64 (wrap64 ((a:Int) + wrap64 (wrap64 (q:Int) * 2)) - 1)=(i0:Int) by rw [hi0,← hq];exact wr7 (by omega) (by omega) (by omega))
 have HW:=Lib.hid hw
 have HNE:=Lib.hid (show w.heap.size≠g by have:=h.at_.2;omega)
 clear h hP hM hq hi0 hbb hb hn hL hL8 hE hw
 go_enter Tryz.func263,Tryz.ntmps263
 go_wp2_with fail
 refine (HP.out _).mono ?_
 rintro e w1 ⟨rfl,rfl⟩
 go_wp2_with fail
 go_loopw [9] (fun v wr=>BpO w0 base g n c w.heap.size a L M i0 d v wr) (fun v _=>i0 + 3 - (intOf v).toNat)
 case atStart =>
  refine ⟨0,?_,Nat.zero_le _,?_⟩
  ·rw [HX0.out];rfl
  ·exact ⟨HH.out.alloc _,by
    rw [show (bpSt a L M i0 d 0).1.toNat=L from UInt64.toNat_ofNat_of_lt' (by have:=HN.out;unfold UInt64.size;omega)]
    exact heap_new rfl,HW.out,HNE.out⟩
 case round =>
  obtain ⟨t,rfl,ht,hs⟩:=hrel
  have HE2:=Lib.hid e2
  clear e1 e2 hwu g1 g3 g5
  obtain ⟨z,hz⟩ : ∃ z,z=i0 + t:=⟨_,rfl⟩
  rw [← hz]
  obtain ⟨⟨r,dk⟩,hst⟩ : ∃ q,q=bpSt a L M i0 d t:=⟨_,rfl⟩
  rw [← hst] at hs
  simp only at hs
  obtain ⟨X,hX⟩ : ∃ X,X=r.toNat:=⟨_,rfl⟩
  rw [← hX] at hs
  have HST:=Lib.hid hst
  have HX:=Lib.hid hX
  have HS:=Lib.hid hs
  have HZ:=Lib.hid hz
  have HQ:=Lib.hid (show wrap64 (wrap64 ((a:Int) + wrap64 (wrap64 (q:Int) * 2)) + 1)=(E:Int) from HE8.out)
  clear hst hX hs
  by_cases hlt:t<3
  ·have z1:decide ((z:Int)≤(E:Int))=true:=decide_eq_true (by have:=HE.out;have:=HN.out;omega)
   have z2:decide (z≤E)=true:=decide_eq_true (by have:=HE.out;have:=HN.out;omega)
   obtain ⟨Y,hY⟩ : ∃ Y,Y=xorNextN X:=⟨_,rfl⟩
   have lX:X<18446744073709551616:=by rw [HX.out];exact r.toNat_lt
   have lY:Y<18446744073709551616:=by rw [hY];exact xorNextN_lt X lX
   have hNX:Calls Tryz.prog 274 #[.pointer (some ⟨w.heap.size,0,none⟩)] wr fun e w'=>e=.returned (.int .u64 (Y:Int))∧w'=(wr.setCell ⟨w.heap.size,0,none⟩ (.int .u64 (Y:Int))).drewN 3:=by
    rw [hY];exact AnyF.xorshift_Next Tryz.laysXor w.heap.size 0 X lX wr HS.out.cell HS.out.fro
   have HNX:=Lib.hid hNX
   obtain ⟨M1,hM1⟩ : ∃ M1,M1=M - 1:=⟨_,rfl⟩
   obtain ⟨O,hO⟩ : ∃ O,O=Y &&& M1:=⟨_,rfl⟩
   have lO:O≤M1:=by rw [hO];exact Nat.and_le_right
   have B1:=Lib.hid (show bits .and .u64 (Y:Int) (M1:Int)=(O:Int) by rw [bits_and_u64_nat _ _ lY (by have:=HM.out;omega),hO])
   have B2:=Lib.hid (wr9 (M:=M) (M1:=M1) (by have:=HM.out;omega) (by have:=HM.out;omega))
   have hO9:O<2000002:=by have:=HM.out;omega
   have HOL:=Lib.hid (show O<2 * L by have:=HM.out;omega)
   have HYO:=Lib.hid (show Y=(xorNext r).toNat∧O=(xorNext r).toNat &&& (M - 1) by
    have e:Y=(xorNext r).toNat:=by rw [hY,HX.out,xorNext_toNat]
    exact ⟨e,by rw [hO,e,hM1]⟩)
   have HT:=Lib.hid (show z<n∧z<1000000∧t + 1≤3∧i0 + 2 - z<i0 + 3 - z by have:=HN.out;have:=HZ.out;omega)
   have hz9:=HT.out.2.1
   have HZ1:=Lib.hid (show i0 + (t + 1)=z + 1 by omega)
   clear hY lX lY hNX hM1 hO lO hlt ht hz
   by_cases hOL:L≤O
   ·have y1:decide ((O:Int)≥(L:Int))=true:=decide_eq_true (by omega)
    have y2:decide ((L:Int)≤(O:Int))=true:=decide_eq_true (by omega)
    have y3:decide (L≤O)=true:=decide_eq_true hOL
    obtain ⟨o2,ho2⟩ : ∃ o2,o2=O - L:=⟨_,rfl⟩
    obtain ⟨P,hP⟩ : ∃ P,P=a + o2:=⟨_,rfl⟩
    have HPP:=Lib.hid (And.intro hP ho2)
    have HPQ:=Lib.hid (show P<a + L by have:=HOL.out;omega)
    have HPN:=Lib.hid (show P<n∧P<1000001 by have:=HN.out;have:=HPQ.out;omega)
    have HLE:=Lib.hid hOL
    have y0:(O:Int) - (L:Int)=(o2:Int):=by omega
    have y5:wrap64 ((a:Int) + ((O:Int) - (L:Int)))=(P:Int):=by rw [y0];exact wr10 hP (Nat.lt_trans HPN.out.2 (by decide))
    have y6:IntKind.i64.wrap ((a:Int) + ((O:Int) - (L:Int)))=(P:Int):=by rw [y0];exact wr11 hP (Nat.lt_trans HPN.out.2 (by decide))
    clear y0
    clear hP ho2 hOL
    have hq:=HQ.out
    have e2:=HE2.out
    have b1:=B1.out
    have b2:=B2.out
    go_wp2_with fail
    refine HNX.out.mono ?_
    rintro e w5 ⟨rfl,hw5⟩
    have hs5:=HS.out.next Y 3
    rw [← hw5] at hs5
    clear hw5
    obtain ⟨W5,hW5⟩ : ∃ z,z=w5:=⟨_,rfl⟩
    subst hW5
    have HS5:=Lib.hid hs5
    clear hs5
    have l1:(z:Int)<(n:Int):=Int.ofNat_lt.2 HT.out.1
    have l2:(P:Int)<(n:Int):=Int.ofNat_lt.2 HPN.out.1
    have c1:=HS5.out.row.cell HT.out.1
    have c2:=HS5.out.row.cell HPN.out.1
    have f1:=HS5.out.row.fro (j:=z)
    have f2:=HS5.out.row.fro (j:=P)
    obtain ⟨x,hx⟩ : ∃ x,x=dk[z]!:=⟨_,rfl⟩
    obtain ⟨y,hy⟩ : ∃ y,y=dk[P]!:=⟨_,rfl⟩
    have hs6:=HS5.out.swap HT.out.1 HPN.out.1
    rw [← hx] at c1 hs6
    rw [← hy] at c2 hs6
    obtain ⟨u,c3⟩:=HS5.out.row.cell2 (i:=z) HPN.out.1 (.int .u32 y)
    have HB:=Lib.hid (show bpSt a L M i0 d (t + 1)=(xorNext r,swp dk z P) by
     show breakStep a L M (bpSt a L M i0 d t) (i0 + t)=_
     rw [← HST.out,← HZ.out]
     unfold breakStep
     simp only
     rw [← HYO.out.2,if_pos HLE.out,← HPP.out.2,← HPP.out.1])
    clear hx hy
    go_wp2_with fail
    go_region
    generalize ((W5.setCell ⟨g,z,none⟩ (.int .u32 y)).setCell ⟨g,P,none⟩ (.int .u32 x)).drew=W6 at hs6 ⊢
    have HS6:=Lib.hid hs6
    clear hs6 c1 c2 c3 f1 f2 l1 l2
    go_wp2_with fail
    go_roundw
    case rel=>exact ⟨t + 1,by rw [HZ1.out];go_num,HT.out.2.2.1,by rw [HB.out,← HYO.out.1];exact HS6.out⟩
    case measure=>simp [intOf];exact HT.out.2.2.2
   ·have y1:decide ((O:Int)≥(L:Int))=false:=decide_eq_false (by omega)
    have y2:decide ((L:Int)≤(O:Int))=false:=decide_eq_false (by omega)
    have y3:decide (L≤O)=false:=decide_eq_false hOL
    obtain ⟨P,hP⟩ : ∃ P,P=a + O:=⟨_,rfl⟩
    have HPP:=Lib.hid hP
    have HPQ:=Lib.hid (show P<a + L by omega)
    have HPN:=Lib.hid (show P<n∧P<1000001 by have:=HN.out;have:=HPQ.out;omega)
    have HLE:=Lib.hid hOL
    have y5:wrap64 ((a:Int) + (O:Int))=(P:Int):=wr10 hP (Nat.lt_trans HPN.out.2 (by decide))
    have y6:IntKind.i64.wrap ((a:Int) + (O:Int))=(P:Int):=wr11 hP (Nat.lt_trans HPN.out.2 (by decide))
    clear hP hOL
    have hq:=HQ.out
    have e2:=HE2.out
    have b1:=B1.out
    have b2:=B2.out
    go_wp2_with fail
    refine HNX.out.mono ?_
    rintro e w5 ⟨rfl,hw5⟩
    have hs5:=HS.out.next Y 3
    rw [← hw5] at hs5
    clear hw5
    obtain ⟨W5,hW5⟩ : ∃ z,z=w5:=⟨_,rfl⟩
    subst hW5
    have HS5:=Lib.hid hs5
    clear hs5
    have l1:(z:Int)<(n:Int):=Int.ofNat_lt.2 HT.out.1
    have l2:(P:Int)<(n:Int):=Int.ofNat_lt.2 HPN.out.1
    have c1:=HS5.out.row.cell HT.out.1
    have c2:=HS5.out.row.cell HPN.out.1
    have f1:=HS5.out.row.fro (j:=z)
    have f2:=HS5.out.row.fro (j:=P)
    obtain ⟨x,hx⟩ : ∃ x,x=dk[z]!:=⟨_,rfl⟩
    obtain ⟨y,hy⟩ : ∃ y,y=dk[P]!:=⟨_,rfl⟩
    have hs6:=HS5.out.swap HT.out.1 HPN.out.1
    rw [← hx] at c1 hs6
    rw [← hy] at c2 hs6
    obtain ⟨u,c3⟩:=HS5.out.row.cell2 (i:=z) HPN.out.1 (.int .u32 y)
    have HB:=Lib.hid (show bpSt a L M i0 d (t + 1)=(xorNext r,swp dk z P) by
     show breakStep a L M (bpSt a L M i0 d t) (i0 + t)=_
     rw [← HST.out,← HZ.out]
     unfold breakStep
     simp only
     rw [← HYO.out.2,if_neg HLE.out,← HPP.out])
    clear hx hy
    go_wp2_with fail
    go_region
    generalize ((W5.setCell ⟨g,z,none⟩ (.int .u32 y)).setCell ⟨g,P,none⟩ (.int .u32 x)).drew=W6 at hs6 ⊢
    have HS6:=Lib.hid hs6
    clear hs6 c1 c2 c3 f1 f2 l1 l2
    go_wp2_with fail
    go_roundw
    case rel=>exact ⟨t + 1,by rw [HZ1.out];go_num,HT.out.2.2.1,by rw [HB.out,← HYO.out.1];exact HS6.out⟩
    case measure=>simp [intOf];exact HT.out.2.2.2
  ·have z1:decide ((z:Int)≤(E:Int))=false:=decide_eq_false (by have:=HE.out;have:=HN.out;omega)
   have z2:decide (z≤E)=false:=decide_eq_false (by have:=HE.out;have:=HN.out;omega)
   have HT3:=Lib.hid (show t=3 by omega)
   have hq:=HQ.out
   have e2:=HE2.out
   clear hlt ht hz
   go_wp2_with fail
   refine ⟨rfl,_,results_none (by kernel_rfl) _ _ _,rfl,?_⟩
   rw [← HT3.out,← HST.out]
   exact HS.out.row
open Go.Sort
section
variable {d d1:Array Int} {a b lim lim1 p:Nat} {wb wp r:Bool} {h:Hint}
theorem pdq_ins (hL:b - a≤12):pdq ltInt d a b lim wb wp=insertionSort ltInt d a b:=by rw [pdq,if_pos hL]
theorem pdq_long (hL:¬ b - a≤12) (hl:¬ lim=0) (h1:(if !wb then breakPatterns d a b else d)=d1) (h2:(if !wb then lim - 1 else lim)=lim1) (hc:choosePivot ltInt d1 a b=(p,h)) (hd:h≠.decreasing)
  (hr:(if wb && wp && h=.increasing then partialInsertionSort ltInt d1 a b else (d1,false))=(d1,r)) :
  pdq ltInt d a b lim wb wp=if r then d1 else if a > 0 && !ltInt d1[a - 1]! d1[p]! then
    (if a<(partitionEqual ltInt d1 a b p).1∧(partitionEqual ltInt d1 a b p).1≤b then pdq ltInt (partitionEqual ltInt d1 a b p).2 (partitionEqual ltInt d1 a b p).1 b lim1 wb wp else (partitionEqual ltInt d1 a b p).2)
   else if a≤(partition ltInt d1 a b p).1∧(partition ltInt d1 a b p).1<b then
    (if (partition ltInt d1 a b p).1 - a<b - (partition ltInt d1 a b p).1 then
     pdq ltInt (pdq ltInt (partition ltInt d1 a b p).2.2 a (partition ltInt d1 a b p).1 lim1 true true) ((partition ltInt d1 a b p).1 + 1) b lim1 (decide ((partition ltInt d1 a b p).1 - a≥(b - a) / 8)) (partition ltInt d1 a b p).2.1
    else pdq ltInt (pdq ltInt (partition ltInt d1 a b p).2.2 ((partition ltInt d1 a b p).1 + 1) b lim1 true true) a (partition ltInt d1 a b p).1 lim1 (decide (b - (partition ltInt d1 a b p).1≥(b - a) / 8)) (partition ltInt d1 a b p).2.1)
   else (partition ltInt d1 a b p).2.2:=by
 rw [pdq,if_neg hL,if_neg hl]
 simp only [h1,h2,hc,hd,if_false,hr,dite_eq_ite]
end
end Go.Proofs.YtlgdcelgkiipaaaGreat.Ls
