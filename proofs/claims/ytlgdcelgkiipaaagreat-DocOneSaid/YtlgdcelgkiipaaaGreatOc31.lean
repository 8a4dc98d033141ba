/-
  slices.DeleteFunc at a row of units of the law's own; undo.Clean. Conditions: rows of at most a thousand units.
  undo.turn: a row in new memory, each unit as a closure makes it; for any closure whose own contract is known, and whose state lies apart from the row. Conditions: rows of at most a thousand units.
-/
import Derived.Test.YtlgdcelgkiipaaaGreatOc12
import Derived.Test.YtlgdcelgkiipaaaGreatOc09
set_option maxRecDepth 100000
set_option linter.unusedVariables false
namespace Go.Proofs.YtlgdcelgkiipaaaGreat
open Go.RowKit
open Pl (Un)
theorem take_snoc {l:List Un} {j:Nat} (hj:j<l.length):l.take (j + 1)=l.take j ++ [l.getD j default]:=by
 rw [List.take_add_one,List.getElem?_eq_getElem hj,List.getD_eq_getElem?_getD,List.getElem?_eq_getElem hj];rfl
set_option maxHeartbeats 400000 in
theorem isNop_any (u:Un) (w:World) :
  Calls Tryz.prog 208 #[uval u] w fun e w'=>e=.returned (.bool (u.k == 0))∧Below w.heap.size w w':=by
 obtain ⟨k,p,c,x,y⟩:=u
 unfold uval
 simp only
 obtain ⟨q,hq⟩ : ∃ q,q=(k == 0):=⟨_,rfl⟩
 have hq1:=hq.symm
 rw [hq1]
 clear hq
 go_enter Tryz.func208,Tryz.ntmps208
 go_wp2_with fail
 go_ret
 exact ⟨rfl,below_box _ _⟩
def NxR (w:World) (l:List Un) (i:Value) (wr:World):Prop:=∃ j:Nat,i=.int .i64 (j:Int)∧j≤l.length∧(∀ u ∈ l.take j,u.k≠0)∧Below w.heap.size w wr
set_option maxHeartbeats 400000 in
theorem indexN_any (A:Option Addr) (n c:Nat) (l:List Un) (w:World) (h1:Uns w w.heap.size A n c l) :
  Calls Tryz.prog 147 #[.slice A n c,.func (.func 208) #[] #[]] w fun e w'=>Below w.heap.size w w'∧(e=.returned (.int .i64 (-1))∧(∀ u ∈ l,u.k≠0)∨∃ r:Nat,e=.returned (.int .i64 (r:Int))∧r<n∧(∀ u ∈ l.take r,u.k≠0)∧(l.getD r default).k=0):=by
 have hcap1:=h1.cap
 have hle1:=h1.le
 unfold maxLen at hcap1
 have HL:=Lib.hid h1.len
 have H1:=Lib.hid h1
 clear h1
 go_enter Tryz.func147,Tryz.ntmps147
 go_wp2_with fail
 go_loopw [8] (fun i wr=>NxR w l i wr) (fun i _=>n - (intOf i).toNat)
 case atStart=>exact ⟨0,rfl,Nat.zero_le _,(fun u hu=>by simp at hu),Below.refl _ _⟩
 case round =>
  obtain ⟨j,rfl,hj,hs,hb⟩:=hrel
  have HB:=Lib.hid hb
  have HS:=Lib.hid hs
  rw [HL.out] at hj
  clear hb hs
  by_cases hlt:j<n
  ·obtain ⟨g1,o1,rfl,hg1,hc1⟩:=Uns.at_ (Rws.below H1.out HB.out (Nat.le_refl _)) hlt
   obtain ⟨a0,a1,a2,a3,a4⟩:=hc1 j hlt
   have hjl:j<l.length:=by rw [HL.out];exact hlt
   obtain ⟨u,hu⟩ : ∃ u,u=l.getD j default:=⟨_,rfl⟩
   have HU:=Lib.hid hu
   rw [← hu] at a0 a1 a2 a3 a4
   have HM:=Lib.hid (isNop_any u wr)
   have HY:=Lib.hid (show u.k≠0→∀ v ∈ l.take (j + 1),v.k≠0 from fun h=>mem_take_getD HS.out hjl (by rw [← hu];exact h))
   obtain ⟨k,p,ch,x,y⟩:=u
   simp only at a0 a1 a2 a3 a4
   have z0:(0:Int)≤(j:Int):=by omega
   have z1:(j:Int)<(n:Int):=by omega
   clear hc1 hu
   unfold uval at HM
   simp only at HM
   by_cases hO:k=0
   ·have hO1:(k == 0)=true:=by simpa using hO
    rw [hO1] at HM
    have HN2:=Lib.hid (show (l.getD j default).k=0 by rw [← HU.out];exact hO)
    have HLT:=Lib.hid hlt
    clear hO hO1 HY
    go_wp2_with fail
    refine HM.out.mono ?_
    rintro e w' ⟨rfl,hb⟩
    have HB2:=Lib.hid (below_then' HB.out hb HB.out.size)
    clear hb a0 a1 a2 a3 a4
    go_wp2_with fail
    go_ret
    exact ⟨HB2.out,Or.inr ⟨j,rfl,HLT.out,HS.out,HN2.out⟩⟩
   ·have hO1:(k == 0)=false:=by simpa using hO
    rw [hO1] at HM
    have HY2:=Lib.hid (HY.out hO)
    clear hO hO1 HY
    go_wp2_with fail
    refine HM.out.mono ?_
    rintro e w' ⟨rfl,hb⟩
    have HB2:=Lib.hid (below_then' HB.out hb HB.out.size)
    clear hb a0 a1 a2 a3 a4
    go_wp2_with fail
    go_roundw
    case rel=>exact ⟨j + 1,by go_num,by rw [HL.out];omega,HY2.out,HB2.out⟩
    case measure=>simp [intOf];omega
  ·have hjn:j=n:=by omega
   have HE:=Lib.hid (show ∀ u ∈ l,u.k≠0 from by
    have:=HS.out
    rw [List.take_of_length_le (by rw [HL.out];omega)] at this
    exact this)
   clear hjn
   go_wp2_with fail
   go_ret
   exact ⟨HB.out,Or.inl ⟨rfl,HE.out⟩⟩
theorem OwnU.put {w:World} {base g n c:Nat} {l:List Un} (h:OwnU w base (.slice (some ⟨g,0,none⟩) n c) l) {i:Nat} (hi:i<l.length) (u:Un) :
  OwnU (((((w.setCell ⟨g,i * 5,none⟩ (.int .i64 u.k)).setCell ⟨g,i * 5 + 1,none⟩ (.int .i64 u.p)).setCell ⟨g,i * 5 + 2,none⟩ (.int .i32 u.c)).setCell ⟨g,i * 5 + 3,none⟩ (.int .u32 u.x)).setCell ⟨g,i * 5 + 4,none⟩ (.int .u64 u.y)) base (.slice (some ⟨g,0,none⟩) n c) (l.set i u):=by
 have hg:∀ (l':List Un) (v:Un),i<l'.length→(l'.set i v)[i]?=some v:=fun l' v h=>List.getElem?_set_self h
 have h0:=(OwnR.set_ encU_len h i 0 (.int .i64 u.k) (by decide) (l.getD i default) ⟨u.k,(l.getD i default).p,(l.getD i default).c,(l.getD i default).x,(l.getD i default).y⟩ (getD_of_get hi) rfl).1
 have h1:=(OwnR.set_ encU_len h0 i 1 (.int .i64 u.p) (by decide) _ ⟨u.k,u.p,(l.getD i default).c,(l.getD i default).x,(l.getD i default).y⟩ (hg _ _ hi) rfl).1
 rw [List.set_set] at h1
 have h2:=(OwnR.set_ encU_len h1 i 2 (.int .i32 u.c) (by decide) _ ⟨u.k,u.p,u.c,(l.getD i default).x,(l.getD i default).y⟩ (hg _ _ hi) rfl).1
 rw [List.set_set] at h2
 have h3:=(OwnR.set_ encU_len h2 i 3 (.int .u32 u.x) (by decide) _ ⟨u.k,u.p,u.c,u.x,(l.getD i default).y⟩ (hg _ _ hi) rfl).1
 rw [List.set_set] at h3
 have h4:=(OwnR.set_ encU_len h3 i 4 (.int .u64 u.y) (by decide) _ u (hg _ _ hi) rfl).1
 rw [List.set_set] at h4
 exact h4
theorem below_put {w w':World} {B g i:Nat} (h:Below B w w') (hg:B≤g) (v0 v1 v2 v3 v4:Value) :
  Below B w (((((w'.setCell ⟨g,i * 5,none⟩ v0).setCell ⟨g,i * 5 + 1,none⟩ v1).setCell ⟨g,i * 5 + 2,none⟩ v2).setCell ⟨g,i * 5 + 3,none⟩ v3).setCell ⟨g,i * 5 + 4,none⟩ v4) :=
 ((((h.setCell (p:=⟨g,i * 5,none⟩) hg _).setCell (p:=⟨g,i * 5 + 1,none⟩) hg _).setCell (p:=⟨g,i * 5 + 2,none⟩) hg _).setCell (p:=⟨g,i * 5 + 3,none⟩) hg _).setCell (p:=⟨g,i * 5 + 4,none⟩) hg _
theorem OwnU.cut {w:World} {base g n c m:Nat} {l:List Un} (h:OwnU w base (.slice (some ⟨g,0,none⟩) n c) l) (hm:m≤n) (vs:List Value) :
  OwnU (w.setCells g (m * 5) vs) base (.slice (some ⟨g,0,none⟩) m c) (l.take m)∧Tn (fun b=>b=g) w (w.setCells g (m * 5) vs):=by
 refine ⟨?_,tn_sets vs w w _ (Tn.refl _ w)⟩
 obtain ⟨hn,hr⟩:=OwnR.rws encU_len h
 obtain ⟨h1,h2⟩:=h
 have hml:(l.take m).length=m:=by rw [List.length_take];omega
 refine ⟨len_cellsR encU_len _,Or.inr ?_⟩
 rcases h2 with ⟨e,_⟩ | ⟨g',cap,cur,e,hb,hg,k1,k2,k3,k4⟩
 ·cases e
 ·cases e
  refine ⟨g,c,Go.Proofs.YtlgdcelgkiipaaaGreat.sets cur (m * 5) vs,by rw [hml],hb,row_sets vs w _ _ hg,by rw [hml];omega,k2,by rw [Go.Proofs.YtlgdcelgkiipaaaGreat.sets_size];exact k3,?_⟩
  rw [hml,← cellsR_take encU_len,← k4,List.take_take]
  apply List.ext_getElem?
  intro i
  simp only [List.getElem?_take]
  have hmn:min (m * 5) (l.length * 5)=m * 5:=by omega
  rw [hmn]
  split
  ·rename_i hi
   rw [Array.getElem?_toList,Array.getElem?_toList,sets_out vs cur _ i (Or.inl hi)]
  ·rfl
def zsU (n:Nat):List Value:=(Builtin.zeroCells #[.int .i64 0,.int .i64 0,.int .i32 0,.int .u32 0,.int .u64 0] n).toList
theorem zsU_one (n:Nat):∀ v ∈ zsU n,v.oneCell'=true:=by
 intro v hv
 simp only [zsU,Builtin.zeroCells,Array.toList_map,List.mem_map] at hv
 obtain ⟨i,_,rfl⟩:=hv
 have:i % 5<5:=Nat.mod_lt _ (by decide)
 simp only [List.size_toArray,List.length_cons,List.length_nil]
 rcases (show i % 5=0∨i % 5=1∨i % 5=2∨i % 5=3∨i % 5=4 by omega) with h | h | h | h | h <;> simp [h,Value.oneCell']
theorem zsU_len (n:Nat):(zsU n).length=n * 5:=by simp [zsU,Builtin.zeroCells]
theorem run_clearU (w:World) (ty:TypeId) (g o n c:Nat) (hn:0<n) (hc:∀ j,j<n * 5→(w.cell? ⟨g,o + j,none⟩).isSome=true) (hf:∀ j,j<n * 5→w.frozen? ⟨g,o + j,none⟩=false) :
  (Builtin.clear_ #[29] ty #[.slice (some ⟨g,o,none⟩) n c]).run Tryz.prog w=.ok (.tuple #[]) (w.setCells g o (zsU n)):=by
 have hst:=run_storeCells_cells (P:=Tryz.prog) g o (zsU n) 0 w (by rw [zsU_len];simpa using hc) (by rw [zsU_len];simpa using hf) (zsU_one n)
 simp only [Nat.add_zero] at hst
 obtain ⟨m,rfl⟩ : ∃ m,n=m + 1:=⟨n - 1,by omega⟩
 have hz:(Builtin.zeroCells (Value.agg #[.int .i64 0,.int .i64 0,.int .i32 0,.int .u32 0,.int .u64 0]).cells (m + 1)).toList=zsU (m + 1):=rfl
 simp [Builtin.clear_,run_underlying Tryz.underlying29,hz,hst]
theorem OwnU.there {w:World} {base g n c:Nat} {l:List Un} (h:OwnU w base (.slice (some ⟨g,0,none⟩) n c) l) (hn:n≤c):∀ j,j<c * 5→(w.cell? ⟨g,j,none⟩).isSome=true∧w.frozen? ⟨g,j,none⟩=false:=by
 intro j hj
 obtain ⟨h1,h2⟩:=h
 rcases h2 with ⟨e,_⟩ | ⟨g',cap,cur,e,hb,hg,k1,k2,k3,k4⟩
 ·cases e
 ·cases e
  refine ⟨?_,frozen_of_row w g j _ _ hg⟩
  rw [cell_of_row w g j _ _ _ hg,Array.getElem?_eq_getElem (by omega)]
  rfl
def DeR (w:World) (base g n c:Nat) (l:List Un) (vi vj:Value) (wr:World):Prop:=∃ (i j:Nat) (X:List Un),vi=.int .i64 (i:Int)∧vj=.int .i64 (j:Int)∧i<j∧j≤n∧OwnU wr base (.slice (some ⟨g,0,none⟩) n c) X∧X.take i=Pl.cleanL (l.take j)∧X.drop j=l.drop j∧Below base w wr
theorem clean_keep {l:List Un} (h:∀ u ∈ l,u.k≠0):Pl.cleanL l=l:=by
 unfold Pl.cleanL
 rw [List.filter_eq_self]
 intro u hu
 simpa using h u hu
theorem drop_getD {X l:List Un} {j:Nat} (h:X.drop j=l.drop j) (hj:j<X.length) (hl:j<l.length):X.getD j default=l.getD j default∧X.drop (j + 1)=l.drop (j + 1):=by
 rw [List.drop_eq_getElem_cons hj,List.drop_eq_getElem_cons hl] at h
 injection h with h1 h2
 refine ⟨?_,h2⟩
 rw [List.getD_eq_getElem?_getD,List.getD_eq_getElem?_getD,List.getElem?_eq_getElem hj,List.getElem?_eq_getElem hl,h1]
set_option maxHeartbeats 2000000 in
theorem delF_any (w:World) (base:Nat) (A:Option Addr) (n c:Nat) (l:List Un) (h:OwnU w base (.slice A n c) l) (hbase:base≤w.heap.size) (hn:n≤1000) :
  Calls Tryz.prog 207 #[.slice A n c,.func (.func 208) #[] #[]] w fun e w'=>∃ B d,e=.returned (.slice B (Pl.cleanL l).length d)∧OwnU w' base (.slice B (Pl.cleanL l).length d) (Pl.cleanL l)∧Below base w w':=by
 have hU:=OwnU.uns h
 have HL:=Lib.hid (show l.length=n from hU.len)
 have HO:=Lib.hid h
 have HI:=Lib.hid (indexN_any A n c l w hU)
 have hle:=hU.le
 have HN:=Lib.hid hn
 have HBS:=Lib.hid hbase
 clear h hbase hU
 go_enter Tryz.func207,Tryz.ntmps207
 go_wp2_with fail
 refine HI.out.mono ?_
 rintro e w1 ⟨hb,⟨rfl,hall⟩ | ⟨r,rfl,hrn,hr1,hr2⟩⟩
 ·have HE:=Lib.hid (clean_keep hall)
  have HO1:=Lib.hid (OwnR.then_ HO.out hb)
  have HB1:=Lib.hid (hb.mono HBS.out)
  clear hb hall HI HO
  go_wp2_with fail
  go_ret
  rw [HE.out]
  refine ⟨A,c,by rw [HL.out];rfl,by rw [HL.out];exact HO1.out,HB1.out⟩
 ·have hl0:r<l.length:=by rw [HL.out];exact hrn
  obtain ⟨g,rfl,hgb,_⟩:=OwnR.pos_ HO.out (by omega)
  have HS:=Lib.hid (show DeR w base g n c l (.int .i64 (r:Int)) (.int .i64 ((r + 1:Nat):Int)) w1 from ⟨r,r + 1,l,rfl,rfl,by omega,by omega,OwnR.then_ HO.out hb,by
   rw [take_snoc hl0,Pl.clean_snoc,if_pos hr2,clean_keep hr1],rfl,hb.mono HBS.out⟩)
  have hr3:((r:Int) == -1)=false:=by rw [beq_eq_false_iff_ne];omega
  have HGB:=Lib.hid hgb
  have hr4:((r + 1:Nat):Int)=(r:Int) + 1:=by omega
  rw [hr4] at HS
  clear hb hr1 hr2 hl0 HI hr4 hgb
  go_wp2_with fail
  clear hr3 hrn
  go_loopw [5,6] (fun i j wr=>DeR w base g n c l i j wr) (fun _ j _=>n - (intOf j).toNat)
  case atStart=>exact HS.out
  case round =>
   obtain ⟨i,j,X,rfl,rfl,hij,hj,ho,ht,hd,hb⟩:=hrel
   have HO2:=Lib.hid ho
   have HB:=Lib.hid hb
   have hXl:X.length=n:=(OwnU.len ho).symm
   by_cases hlt:j<n
   ·obtain ⟨a0,a1,a2,a3,a4,af⟩:=OwnU.cells ho hlt
    obtain ⟨hg1,hg2⟩:=drop_getD hd (by omega) (by rw [HL.out];exact hlt)
    rw [hg1] at a0 a1 a2 a3 a4
    have hts:=take_snoc (show j<l.length by rw [HL.out];exact hlt)
    obtain ⟨u,hu⟩ : ∃ u,u=l.getD j default:=⟨_,rfl⟩
    rw [← hu] at a0 a1 a2 a3 a4 hts
    have HM:=fun w=>Lib.hid (isNop_any u w)
    have hbox:=below_box wr (.cells #[.int .i64 u.k,.int .i64 u.p,.int .i32 u.c,.int .u32 u.x,.int .u64 u.y] 47)
    have HO3:=Lib.hid (OwnR.then_ ho hbox)
    have HB3:=Lib.hid (below_then' hb (hbox.mono (Nat.le_refl _)) (Nat.le_trans HBS.out hb.size))
    have HU3:=Lib.hid (show UAt (wr.alloc (.cells #[.int .i64 u.k,.int .i64 u.p,.int .i32 u.c,.int .u32 u.x,.int .u64 u.y] 47)) wr.heap.size u.k u.p u.c u.x u.y from uat_new _ _ _ _ _ _)
    have hsz3:=HB3.out.size
    have HSZ:=Lib.hid (Nat.le_trans HBS.out hsz3)
    have HTK:=Lib.hid (show u.k≠0→(X.set i u).take (i + 1)=Pl.cleanL (l.take (j + 1)) from fun h=>by
     rw [hts,Pl.clean_snoc,if_neg h,← ht]
     have hi:i<(X.set i u).length:=by rw [List.length_set];omega
     rw [take_snoc hi,List.take_set_of_le (Nat.le_refl i)]
     congr 2
     rw [List.getD_eq_getElem?_getD,List.getElem?_set_self (by omega)];rfl)
    have HTN:=Lib.hid (show u.k=0→X.take i=Pl.cleanL (l.take (j + 1)) from fun h=>by rw [hts,Pl.clean_snoc,if_pos h];exact ht)
    have HDK:=Lib.hid (show (X.set i u).drop (j + 1)=l.drop (j + 1) by rw [List.drop_set_of_lt (by omega)];exact hg2)
    have HDN:=Lib.hid hg2
    have HIL:=Lib.hid (show i<X.length by omega)
    have hin:i<n:=by omega
    have HPUT:=fun (w4:World) (h:OwnU w4 base (.slice (some ⟨g,0,none⟩) n c) X)=>Lib.hid (OwnU.put h HIL.out u)
    have HMS:=Lib.hid (show n - (j + 1)<n - j by omega)
    have HJ:=Lib.hid (show j + 1≤n∧i<j + 1∧i + 1<j + 1 by omega)
    obtain ⟨k,p,ch,x,y⟩:=u
    simp only at a0 a1 a2 a3 a4 HO3 HB3 HU3 HSZ HTK HTN HPUT
    have z0:(0:Int)≤(j:Int):=Int.natCast_nonneg j
    have z1:(j:Int)<(n:Int):=Int.ofNat_lt.2 hlt
    have z2:(0:Int)≤(i:Int):=Int.natCast_nonneg i
    have z3:(i:Int)<(n:Int):=Int.ofNat_lt.2 hin
    unfold uval at HM
    simp only at HM
    clear hbox hu hts ht hd hg1 hg2 ho hb af hsz3 hXl
    by_cases hO:k=0
    ·have hO1:(k == 0)=true:=by simpa using hO
     rw [hO1] at HM
     have HT2:=Lib.hid (HTN.out hO)
     clear hO hO1 HTN HTK
     go_wp2_with fail
     refine (HM _).out.mono ?_
     rintro e w4 ⟨rfl,hb⟩
     have HO4:=Lib.hid (OwnR.then_ HO3.out hb)
     have HB4:=Lib.hid (below_then' HB3.out hb HSZ.out)
     clear hb a0 a1 a2 a3 a4
     go_wp2_with fail
     go_roundw
     case rel=>exact ⟨i,j + 1,X,by go_num,by go_num,HJ.out.2.1,HJ.out.1,HO4.out,HT2.out,HDN.out,HB4.out⟩
     case measure=>simp [intOf];exact HMS.out
    ·have hO1:(k == 0)=false:=by simpa using hO
     rw [hO1] at HM
     have HT2:=Lib.hid (HTK.out hO)
     clear hO hO1 HTN HTK
     go_wp2_with fail
     refine (HM _).out.mono ?_
     rintro e w4 ⟨rfl,hb⟩
     have HO4:=Lib.hid (OwnR.then_ HO3.out hb)
     have HB4:=Lib.hid (below_then' HB3.out hb HSZ.out)
     obtain ⟨b0,b1,b2,b3,b4⟩:=(HU3.out.then_ hb).cells
     obtain ⟨c0,c1,c2,c3,c4,cf⟩:=OwnU.cells HO4.out hin
     have HO5:=Lib.hid (HPUT w4 HO4.out).out
     have HB5:=Lib.hid (below_put (i:=i) HB4.out HGB.out (.int .i64 k) (.int .i64 p) (.int .i32 ch) (.int .u32 x) (.int .u64 y))
     clear hb a0 a1 a2 a3 a4 HPUT
     go_wp2_with fail
     go_roundw
     case rel=>exact ⟨i + 1,j + 1,_,by go_num,by go_num,HJ.out.2.2,HJ.out.1,HO5.out,HT2.out,HDK.out,HB5.out⟩
     case measure=>simp [intOf];exact HMS.out
   ·obtain rfl:n=j:=by omega
    have hCE:X.take i=Pl.cleanL l:=by rw [ht,List.take_of_length_le (by rw [HL.out];exact Nat.le_refl _)]
    have hCl:(Pl.cleanL l).length=i:=by rw [← hCE,List.length_take];omega
    have hsf:=slice_fromU (some ⟨g,0,none⟩) n c i (by omega)
    rw [if_neg (by omega),Option.map_some,Addr.add_lit,Nat.zero_add] at hsf
    have hst:=slice_toU (some ⟨g,0,none⟩) n c i (by omega)
    have hcl:=fun ty=>run_clearU wr ty g (i * 5) (n - i) (c - i) (by omega) (fun t ht=>(OwnU.there ho hle (i * 5 + t) (by omega)).1) (fun t ht=>(OwnU.there ho hle (i * 5 + t) (by omega)).2)
    obtain ⟨W2,hW2⟩ : ∃ W2,W2=wr.setCells g (i * 5) (zsU (n - i)):=⟨_,rfl⟩
    have hcut:=OwnU.cut ho (Nat.le_of_lt hij) (zsU (n - i))
    rw [← hW2,hCE] at hcut
    have HO6:=Lib.hid hcut.1
    have HB6:=Lib.hid (show Below base w W2 from hcut.2.below hb (Nat.le_trans HBS.out hb.size) (fun b e=>by rw [e];exact HGB.out))
    have HCL:=Lib.hid hCl
    simp only [← hW2] at hcl
    clear hCE hCl hcut ht hd ho hb hW2 HO2 HB hXl HS
    go_wp2_with fail
    go_ret
    rw [HCL.out]
    exact ⟨some ⟨g,0,none⟩,c,rfl,HO6.out,HB6.out⟩
set_option maxHeartbeats 400000 in
theorem clean_any (A:Option Addr) (n c:Nat) (l:List Un) (w:World) (h1:Uns w w.heap.size A n c l) (hr:n≤1000) :
  Calls Tryz.prog 153 #[.slice A n c] w (RetU w (Pl.cleanL l)):=by
 have HC:=Lib.hid (cloneU_any A n c l w h1 hr)
 have HL:=Lib.hid h1.len
 clear h1
 go_enter Tryz.func153,Tryz.ntmps153
 go_wp2_with fail
 refine HC.out.mono ?_
 rintro e w1 ⟨B,d,rfl,ho,hb⟩
 have HB:=Lib.hid hb
 have HD:=Lib.hid (delF_any w1 w.heap.size B l.length d l ho hb.size (by rw [HL.out];exact hr))
 clear ho hb HC
 go_wp2_with fail
 refine HD.out.mono ?_
 rintro e w2 ⟨B2,d2,rfl,ho2,hb2⟩
 have HO:=Lib.hid ho2
 have HB2:=Lib.hid (HB.out.trans hb2)
 clear ho2 hb2 HD
 go_wp2_with fail
 go_ret
 exact ⟨B2,d2,rfl,HO.out,HB2.out⟩
open Go.RowKit
open Pl (Un)
def TuR (w:World) (V:Value) (l:List Un) (out:Nat→Un) (St:Nat→(Nat→Prop)→World→Prop) (X0:Nat→Prop) (i:Value) (wr:World):Prop :=
 ∃ j:Nat,i=.int .i64 (j:Int)∧j≤l.length∧OwnU wr w.heap.size V ((List.range j).map out ++ l.drop j)∧∃ X,St j X wr∧Tn X0 w wr∧(∀ b,X b→X0 b∨w.heap.size≤b)∧∀ g,V.ownBlock=some g→¬ X g
theorem len_outs (out:Nat→Un) (j:Nat):((List.range j).map out).length=j:=by simp
set_option maxHeartbeats 1000000 in
theorem turn_any (f:FuncId) (caps:Array Value) (hf:∀ args w,(callFunc f args).run Tryz.prog w=.ok (.enter f args) w) (A:Option Addr) (n c:Nat) (l:List Un) (w:World) (h1:Uns w w.heap.size A n c l) (hr:n≤1000)
  (St:Nat→(Nat→Prop)→World→Prop) (out:Nat→Un) (X0:Nat→Prop)
  (hS:∀ j X wr,j<l.length→St j X wr→Calls Tryz.prog f (#[uval (l.getD j default)] ++ caps) wr fun e w'=>e=.returned (uval (out j))∧∃ X',St (j + 1) X' w'∧Tn X wr w'∧∀ b,X' b→X b∨wr.heap.size≤b)
  (hC:∀ j X Y wr w',St j X wr→Tn Y wr w'→(∀ b,Y b→¬ X b)→St j X w') (h0:St 0 X0 w) (hX:∀ b,X0 b→b<w.heap.size) :
  Calls Tryz.prog 206 #[.slice A n c,.func (.func f) #[] caps] w fun e w'=>∃ A' c',e=.returned (.slice A' l.length c')∧OwnU w' w.heap.size (.slice A' l.length c') ((List.range l.length).map out)∧(∃ X',St l.length X' w')∧Tn X0 w w':=by
 have HL:=Lib.hid h1.len
 have HCL:=Lib.hid (cloneU_any A n c l w h1 hr)
 have HS:=Lib.hid hS
 have HC:=Lib.hid hC
 have H0:=Lib.hid h0
 have HX:=Lib.hid hX
 clear h1 hS hC h0 hX
 go_enter Tryz.func206,Tryz.ntmps206
 go_wp2_with fail
 refine HCL.out.mono ?_
 rintro e w1 ⟨A1,c1,rfl,hO,hb⟩
 obtain ⟨N,hN⟩ : ∃ N,N=l.length:=⟨_,rfl⟩
 rw [← hN] at hO ⊢
 have HN:=Lib.hid hN
 have hNb:N≤1000:=by have:=HL.out;omega
 have HR:=Lib.hid (show TuR w (.slice A1 N c1) l out St X0 (.int .i64 ((0:Nat):Int)) w1 from
  ⟨0,rfl,Nat.zero_le _,hO,X0,HC.out 0 X0 (fun _=>False) w w1 H0.out (Tn.of _ hb) (fun b h=>h.elim),Tn.of _ hb,fun b h=>Or.inl h,fun g hg hx=>by have:=(hO.lt g hg).1;have:=HX.out g hx;omega⟩)
 clear hO hb hN HCL
 go_wp2_with fail
 go_loopw [12] (fun i wr=>TuR w (.slice A1 N c1) l out St X0 i wr) (fun i _=>N - (intOf i).toNat)
 case atStart=>exact HR.out
 case round =>
  obtain ⟨j,rfl,hj,ho,X,hst,ht,hxx,hxg⟩:=hrel
  have HO:=Lib.hid ho
  have HT:=Lib.hid ht
  have HST:=Lib.hid hst
  have HXX:=Lib.hid hxx
  have HXG:=Lib.hid hxg
  rw [← HN.out] at hj
  by_cases hlt:j<N
  ·obtain ⟨g,rfl,hbg,hgw⟩:=OwnR.pos_ ho (by omega)
   obtain ⟨k0,k1,k2,k3,k4,_⟩:=OwnU.cells ho hlt
   have hjl:j<l.length:=by rw [← HN.out];exact hlt
   rw [list_at (len_outs out j) j rfl] at k0 k1 k2 k3 k4
   obtain ⟨x,hx⟩ : ∃ x,x=l.getD j default:=⟨_,rfl⟩
   rw [← hx] at k0 k1 k2 k3 k4
   obtain ⟨W5,hW5⟩ : ∃ W5,W5=wr.alloc (.cells #[.int .i64 x.k,.int .i64 x.p,.int .i32 x.c,.int .u32 x.x,.int .u64 x.y] 47):=⟨_,rfl⟩
   have hb5:Below wr.heap.size wr W5:=by rw [hW5];exact below_box _ _
   have HCC:=Lib.hid (HS.out j X W5 hjl (HC.out j X (fun _=>False) wr W5 hst (Tn.of _ hb5) (fun b h=>h.elim)))
   have HW5:=Lib.hid hW5
   have HB5:=Lib.hid hb5
   have z0:(0:Int)≤(j:Int):=Int.natCast_nonneg j
   have z1:(j:Int)<(N:Int):=Int.ofNat_lt.2 hlt
   obtain ⟨⟨ka,pa,ca,xa,ya⟩,ha⟩ : ∃ r,r=out j:=⟨_,rfl⟩
   rw [← ha,← hx] at HCC
   have HNX:=Lib.hid (show ((List.range j).map out ++ l.drop j).set j ⟨ka,pa,ca,xa,ya⟩=(List.range (j + 1)).map out ++ l.drop (j + 1) from by
    rw [list_set (len_outs out j) hjl,List.range_succ,List.map_append,ha];rfl)
   have HMS:=Lib.hid (show N - (j + 1)<N - j by omega)
   have HJ1:=Lib.hid (show j + 1≤l.length from hjl)
   unfold uval at HCC
   simp only at HCC
   have hgw5:g<W5.heap.size:=Nat.lt_of_lt_of_le hgw hb5.size
   have HGW:=Lib.hid (And.intro hbg hgw)
   clear ho hst ht hxx hxg hx hW5 hb5 ha hbg hgw hgw5
   go_wp2_with fail
   rw [show wr.alloc (.cells #[.int .i64 x.k,.int .i64 x.p,.int .i32 x.c,.int .u32 x.x,.int .u64 x.y] 47)=W5 from HW5.out.symm]
   refine HCC.out.mono ?_
   rintro e w6 ⟨rfl,X',hst6,ht6,hx6⟩
   have hxg:¬ X g:=HXG.out g rfl
   have ho6:=OwnR.tn (OwnR.then_ HO.out HB5.out) ht6 (fun g1 h1 h2=>by cases h1;exact hxg h2)
   have HO6:=Lib.hid ho6
   obtain ⟨d0,d1,d2,d3,d4,f2⟩:=OwnU.cells ho6 hlt
   have HX6:=Lib.hid (show ¬ X' g from fun h=>by
    rcases hx6 g h with h | h
    ·exact hxg h
    ·have:=HB5.out.size;have:=HGW.out.2;omega)
   have HT6:=Lib.hid (show Tn X0 w w6 from (HT.out.trans (T':=fun _=>False) (Tn.of _ HB5.out) (fun b _ h=>h.elim)).trans ht6 (fun b hb hx=>by
    rcases HXX.out b hx with h | h
    ·exact h
    ·omega))
   have HXX6:=Lib.hid (show ∀ b,X' b→X0 b∨w.heap.size≤b from fun b hb=>by
    rcases hx6 b hb with h | h
    ·exact HXX.out b h
    ·refine Or.inr ?_
     have:=HB5.out.size;have:=HT.out.size;omega)
   have HST6:=Lib.hid hst6
   clear k0 k1 k2 k3 k4 ho6 ht6 hst6 hxg hx6 HCC
   go_wp2_with fail
   have HO7:=Lib.hid (OwnU.sets HO6.out hlt ⟨ka,pa,ca,xa,ya⟩)
   have HT7:=Lib.hid (tn_five (T:=fun b=>b=g) (i:=j * 5) (Tn.refl _ w6) (Or.inr rfl) (.int .i64 ka) (.int .i64 pa) (.int .i32 ca) (.int .u32 xa) (.int .u64 ya))
   go_roundw
   case rel =>
    refine ⟨j + 1,by go_num,HJ1.out,?_,X',HC.out _ _ _ _ _ HST6.out HT7.out (fun b hb h=>by subst hb;exact HX6.out h),?_,HXX6.out,fun g1 h1 h2=>by cases h1;exact HX6.out h2⟩
    ·rw [← HNX.out];exact HO7.out
    ·exact HT6.out.trans HT7.out (fun b hb h=>by subst h;have:=HGW.out.1;omega)
   case measure=>simp [intOf];exact HMS.out
  ·have hjm:j=l.length:=by have:=HN.out;omega
   subst hjm
   rw [List.drop_length,List.append_nil] at ho
   have HR2:=Lib.hid ho
   have hNN:=HN.out
   subst hNN
   clear HO HR ho hst ht hxx hxg
   go_wp2_with fail
   go_ret
   exact ⟨A1,c1,rfl,HR2.out,⟨X,HST.out⟩,HT.out⟩
end Go.Proofs.YtlgdcelgkiipaaaGreat
