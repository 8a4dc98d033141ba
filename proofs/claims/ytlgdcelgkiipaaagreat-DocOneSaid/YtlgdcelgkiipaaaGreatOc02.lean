/-
  Contracts of unit.moves and its closures, and of unit.Over: what becomes of a unit behind another. No conditions.
  Comparison of two units and of two Ids; a unit's fields. No conditions.
  How units, Ids and code points come out of what can be read as data. Conditions: those that each states.
-/
import Derived.Test.YtlgdcelgkiipaaaGreatOc01
import Derived.Carry
import Derived.WideMake
import Derived.Handy
import Derived.Laws.StructEq
import Derived.Deep.Slices
import Derived.Deep.Fields
import Derived.ChangeSame
import Derived.WideShapes
set_option maxRecDepth 100000
set_option linter.unusedVariables false
namespace Go.Proofs.YtlgdcelgkiipaaaGreat
open Go.RowKit
open Pl (Un)
theorem ins_run {w:World} {r clock:Nat} {es:Array MapEntry} (key:Int) (v:Value) (hb:w.heap[r]?=some (.map es clock)) (hf:Instr.findNow (.int .i64) (.int .i64 key) es.toList 0=some none) :
  ∃ w',(Instr.mapUpdate 282 (.map (some r)) (.int .i64 key) v).run Tryz.prog w=.ok () w'∧w'.heap[r]?=some (.map (es.push { key:=.int .i64 key,val:=v,born:=clock }) (clock + 1))∧Below r w w':=by
 have hm:=Tryz.underlying282
 have hk:=Tryz.underlying3
 have hc:(Instr.checkKey false 10000 3 (.int .i64 key)).run Tryz.prog w=.ok () w:=MapKept.run_checkKey (k:=.int .i64 key) hk (by simp [MapKept.IsKey]) false 9999
 refine ⟨{ w with heap:=w.heap.setIfInBounds r (.map (es.push { key:=.int .i64 key,val:=v,born:=clock }) (clock + 1)) },?_,(MapKept.heap_set hb).1,⟨rfl,rfl,rfl,by simp,fun b hbr=>(MapKept.heap_set hb).2 b (Nat.ne_of_lt hbr)⟩⟩
 simp [Instr.mapUpdate,run_underlying hm,MapKept.run_getObj_map hb,hc,MapKept.run_findKey hk hf,MapKept.run_setObj_map _ hb,Result.andThen]
def table:Array MapEntry:=#[⟨.int .i64 0,.func (.func 251) #[] #[],0⟩,⟨.int .i64 1,.func (.func 252) #[] #[],1⟩,⟨.int .i64 2,.func (.func 254) #[] #[],2⟩]
def IsMoves (v:Value) (w:World):Prop:=∃ r:Nat,v=.map (some r)∧w.heap[r]?=some (.map table 3)
theorem IsMoves.below {v:Value} {w w':World} (h:IsMoves v w) (hb:Below w.heap.size w w'):IsMoves v w':=by
 obtain ⟨r,e,hr⟩:=h
 exact ⟨r,e,below_old hb hr (lt_of_block hr)⟩
set_option maxHeartbeats 400000 in
theorem moves_any (w:World) :
  Calls Tryz.prog 241 #[] w fun e w'=>∃ r:Nat,e=.returned (.map (some r))∧w'.heap[r]?=some (.map table 3)∧w.heap.size≤r∧Below w.heap.size w w':=by
 have hmm:=@run_makeMap Tryz.prog
 obtain ⟨w1,r1,b1,n1⟩:=ins_run (w:=w.alloc (.map #[] 0)) (r:=w.heap.size) 0 (.func (.func 251) #[] #[]) (heap_new rfl) rfl
 obtain ⟨w2,r2,b2,n2⟩:=ins_run 1 (.func (.func 252) #[] #[]) b1 rfl
 obtain ⟨w3,r3,b3,n3⟩:=ins_run 2 (.func (.func 254) #[] #[]) b2 rfl
 have HB:=Lib.hid ((below_box w (.map #[] 0)).trans (n1.trans (n2.trans n3)))
 have HM:=Lib.hid b3
 clear b1 n1 b2 n2 b3 n3
 go_enter Tryz.func241,Tryz.ntmps241
 go_wp2_with fail
 go_ret
 exact ⟨_,rfl,HM.out,Nat.le_refl _,HB.out⟩
theorem lookup_moves {v:Value} {w:World} (h:IsMoves v w) {k:Int} (hk:k=0∨k=1∨k=2) :
  (Instr.lookup 282 v (.int .i64 k) false).run Tryz.prog w=.ok (.func (.func (if k=0 then 251 else if k=1 then 252 else 254)) #[] #[]) w:=by
 obtain ⟨r,rfl,hb⟩:=h
 have hm:=Tryz.underlying282
 have hki:=Tryz.underlying3
 have hc:(Instr.checkKey table.isEmpty 10000 3 (.int .i64 k)).run Tryz.prog w=.ok () w:=MapKept.run_checkKey (k:=.int .i64 k) hki (by simp [MapKept.IsKey]) _ 9999
 have hf:∃ i,Instr.findNow (.int .i64) (.int .i64 k) table.toList 0=some (some (i,.func (.func (if k=0 then 251 else if k=1 then 252 else 254)) #[] #[])):=by
  rcases hk with rfl | rfl | rfl
  ·exact ⟨0,rfl⟩
  ·exact ⟨1,rfl⟩
  ·exact ⟨2,rfl⟩
 obtain ⟨i,hf⟩:=hf
 simp [Instr.lookup,run_underlying hm,MapKept.run_getObj_map hb,hc,MapKept.run_findKey hki hf,Result.andThen]
theorem below_three {w:World} {a b c:Obj}:Below w.heap.size w (((w.alloc a).alloc b).alloc c):=below_alloc (below_alloc (below_box w a) b) c
theorem UAt.frozen {w:World} {b:Nat} {k p c x y:Int} (h:UAt w b k p c x y) (j:Nat):w.frozen? ⟨b,j,none⟩=false:=frozen_of_row w b j _ _ h
theorem UAt.sets {w:World} {b:Nat} {k p c x y:Int} (h:UAt w b k p c x y) (k' p' c' x' y':Int) :
  UAt (((((w.setCell ⟨b,0,none⟩ (.int .i64 k')).setCell ⟨b,1,none⟩ (.int .i64 p')).setCell ⟨b,2,none⟩ (.int .i32 c')).setCell ⟨b,3,none⟩ (.int .u32 x')).setCell ⟨b,4,none⟩ (.int .u64 y')) b k' p' c' x' y':=by
 have h0:=blk_set (i:=0) h (.int .i64 k')
 have h1:=blk_set (i:=1) h0 (.int .i64 p')
 have h2:=blk_set (i:=2) h1 (.int .i32 c')
 have h3:=blk_set (i:=3) h2 (.int .u32 x')
 exact blk_set (i:=4) h3 (.int .u64 y')
theorem three_new (w:World) (k p c x y k' p' c' x' y':Int) :
  ∀ w',Below ((((w.alloc (.cells #[.int .i64 k,.int .i64 p,.int .i32 c,.int .u32 x,.int .u64 y] 47)).alloc (.cells #[.int .i64 k',.int .i64 p',.int .i32 c',.int .u32 x',.int .u64 y'] 47)).alloc (.cells #[.int .i64 0,.int .i64 0,.int .i32 0,.int .u32 0,.int .u64 0] 47))).heap.size (((w.alloc (.cells #[.int .i64 k,.int .i64 p,.int .i32 c,.int .u32 x,.int .u64 y] 47)).alloc (.cells #[.int .i64 k',.int .i64 p',.int .i32 c',.int .u32 x',.int .u64 y'] 47)).alloc (.cells #[.int .i64 0,.int .i64 0,.int .i32 0,.int .u32 0,.int .u64 0] 47)) w' →
   UAt w' w.heap.size k p c x y∧UAt w' (w.heap.size + 1) k' p' c' x' y'∧UAt w' (w.heap.size + 1 + 1) 0 0 0 0 0∧Below w.heap.size w w':=by
 intro w' hb
 refine ⟨(((uat_new w k p c x y).alloc _).alloc _).then_ hb,UAt.then_ (UAt.alloc (heap_new (by simp)) _) hb,UAt.then_ (heap_new (by simp)) hb,below_three.trans (hb.mono below_three.size)⟩
theorem results_unit {fn:Func} {t:Tmp} {tmps:Array Value} {b:Nat} {Z:World} {k p c x y:Int} (h:fn.results=#[.cell t 47]) (ha:tmps.getD t undef=.pointer (some ⟨b,0,none⟩)) (hZ:UAt Z b k p c x y) :
  (results fn tmps).run Tryz.prog Z=.ok (uval ⟨k,p,c,x,y⟩) Z:=by
 obtain ⟨c0,c1,c2,c3,c4⟩:=hZ.cells
 have ha':tmps[t]?.getD undef=.pointer (some ⟨b,0,none⟩):=by simpa using ha
 simp [results,h,ha',go_sem,c0,c1,c2,c3,c4,uval]
theorem UAt.far {w:World} {b:Nat} {k p c x y:Int} (h:UAt w b k p c x y) {q:Addr} (hq:b≠q.block) (u:Value):UAt (w.setCell q u) b k p c x y:=(blk_keep u hq).trans h
theorem below_sets {w w':World} {b B:Nat} (h:Below B w w') (hb:B≤b) (v0 v1 v2 v3 v4:Value):Below B w (((((w'.setCell ⟨b,0,none⟩ v0).setCell ⟨b,1,none⟩ v1).setCell ⟨b,2,none⟩ v2).setCell ⟨b,3,none⟩ v3).setCell ⟨b,4,none⟩ v4) :=
 ((((h.setCell (p:=⟨b,0,none⟩) hb _).setCell (p:=⟨b,1,none⟩) hb _).setCell (p:=⟨b,2,none⟩) hb _).setCell (p:=⟨b,3,none⟩) hb _).setCell (p:=⟨b,4,none⟩) hb _
set_option maxHeartbeats 400000 in
theorem moves1_any (a b:Un) (w:World) :
  Calls Tryz.prog 251 #[uval a,uval b] w fun e w'=>e=.returned (uval a)∧Below w.heap.size w w':=by
 obtain ⟨k,p,c,x,y⟩:=a
 obtain ⟨k',p',c',x',y'⟩:=b
 unfold uval
 simp only
 go_enter Tryz.func251,Tryz.ntmps251
 go_wp2_with fail
 go_returns
 exact ⟨rfl,below_three⟩
set_option maxHeartbeats 400000 in
theorem moves2_any (a b:Un) (w:World) :
  Calls Tryz.prog 252 #[uval a,uval b] w fun e w'=>e=.returned (uval (Pl.pastIns a b))∧Below w.heap.size w w':=by
 obtain ⟨k,p,c,x,y⟩:=a
 obtain ⟨k',p',c',x',y'⟩:=b
 unfold uval Pl.pastIns
 simp only
 have HA:=fun w=>Lib.hid (ahead_any x' y' x y w)
 go_enter Tryz.func252,Tryz.ntmps252
 by_cases h:p'<p
 ·rw [if_pos (Or.inl h)]
  go_wp2_with fail
  go_returns
  exact ⟨rfl,below_three⟩
 ·by_cases he:p=p'
  ·subst he
   by_cases hk:k=2
   ·subst hk
    rw [if_pos (Or.inr ⟨rfl,Or.inl rfl⟩)]
    go_wp2_with fail
    go_returns
    exact ⟨rfl,below_three⟩
   ·have hkb:(k == 2)=false:=by simpa using hk
    have hlt:decide (p<p)=false:=decide_eq_false h
    have HX:=Lib.hid (three_new w k p c x y k' p c' x' y')
    by_cases hf:Pl.First x' y' x y
    ·rw [if_pos (Or.inr ⟨rfl,Or.inr hf⟩)]
     rw [decide_eq_true hf] at HA
     clear hf
     go_wp2_with fail
     unfold idval at HA
     refine (HA _).out.mono ?_
     rintro e w' ⟨rfl,hb⟩
     obtain ⟨hA,_,hC,hB⟩:=HX.out w' hb
     have HA2:=Lib.hid hA
     have HC2:=Lib.hid hC
     have HB2:=Lib.hid hB
     obtain ⟨c0,c1,c2,c3,c4⟩:=hA.cells
     obtain ⟨d0,d1,d2,d3,d4⟩:=hC.cells
     have f1:=fun j=>hA.frozen j
     have f2:=fun j=>hC.frozen j
     clear hA hC hB hb
     go_wp2_with fail
     exact bodyPost_ret (results_unit rfl (by rfl) ((HC2.out.far (q:=⟨w.heap.size,1,none⟩) (by simp only;omega) _).sets _ _ _ _ _)) rfl ⟨rfl,below_sets (HB2.out.setCell (p:=⟨w.heap.size,1,none⟩) (Nat.le_refl _) _) (by omega) _ _ _ _ _⟩
    ·rw [if_neg (fun h1=>h1.elim h (fun h2=>h2.2.elim hk hf))]
     rw [decide_eq_false hf] at HA
     clear hf
     go_wp2_with fail
     unfold idval at HA
     refine (HA _).out.mono ?_
     rintro e w' ⟨rfl,hb⟩
     obtain ⟨hA,_,hC,hB⟩:=HX.out w' hb
     have HC2:=Lib.hid hC
     have HB2:=Lib.hid hB
     obtain ⟨c0,c1,c2,c3,c4⟩:=hA.cells
     obtain ⟨d0,d1,d2,d3,d4⟩:=hC.cells
     have f2:=fun j=>hC.frozen j
     clear hA hC hB hb
     go_wp2_with fail
     exact bodyPost_ret (results_unit rfl (by rfl) (HC2.out.sets _ _ _ _ _)) rfl ⟨rfl,below_sets HB2.out (by omega) _ _ _ _ _⟩
  ·rw [if_neg (fun h1=>h1.elim h (fun h2=>he h2.1))]
   have hb:(p == p')=false:=by simpa using he
   go_wp2_with fail
   go_returns
   exact ⟨rfl,below_three⟩
set_option maxHeartbeats 400000 in
theorem moves3_any (a b:Un) (w:World) :
  Calls Tryz.prog 254 #[uval a,uval b] w fun e w'=>e=.returned (uval (Pl.pastDel a b))∧Below w.heap.size w w':=by
 obtain ⟨k,p,c,x,y⟩:=a
 obtain ⟨k',p',c',x',y'⟩:=b
 unfold uval Pl.pastDel
 simp only
 go_enter Tryz.func254,Tryz.ntmps254
 by_cases h:p'<p
 ·rw [if_pos h]
  go_wp2_with fail
  go_returns
  exact ⟨rfl,below_three⟩
 ·rw [if_neg h]
  by_cases he:p=p'
  ·subst he
   by_cases hk:k=2
   ·subst hk
    rw [if_pos ⟨rfl,rfl⟩]
    go_wp2_with fail
    go_returns
    exact ⟨rfl,below_three⟩
   ·rw [if_neg (fun h1=>hk h1.2)]
    have hb:(k == 2)=false:=by simpa using hk
    go_wp2_with fail
    go_returns
    exact ⟨rfl,below_three⟩
  ·rw [if_neg (fun h1=>he h1.1)]
   have hb:(p == p')=false:=by simpa using he
   go_wp2_with fail
   go_returns
   exact ⟨rfl,below_three⟩
def OvS (w0:World) (s:Nat) (k p c x y k' p' c' x' y' k2 p2 c2 x2 y2:Int) (L:Nat→Bool) (w:World):Prop :=
 UAt w s k p c x y∧UAt w (s + 1) k' p' c' x' y'∧(L 7=false→UAt w (s + 1 + 1) 0 0 0 0 0)∧(L 7=true→UAt w (s + 1 + 1) k2 p2 c2 x2 y2)∧Below s w0 w
def OvR (s:Nat) (_:Nat) (w w':World):Prop:=∀ b o,b≠s + 1 + 1→w.heap[b]?=some o→w'.heap[b]?=some o
def IsMovesN (s:Nat) (v:Value) (w:World):Prop:=∃ r:Nat,v=.map (some r)∧w.heap[r]?=some (.map table 3)∧r≠s + 1 + 1
theorem IsMovesN.is {s:Nat} {v:Value} {w:World} (h:IsMovesN s v w):IsMoves v w:=by
 obtain ⟨r,e,hr,_⟩:=h
 exact ⟨r,e,hr⟩
theorem IsMovesN.keep {s k:Nat} {v:Value} {w w':World} (h:IsMovesN s v w) (hr:OvR s k w w'):IsMovesN s v w':=by
 obtain ⟨r,e,h1,h2⟩:=h
 exact ⟨r,e,hr r _ h2 h1,h2⟩
theorem OvR.of {s k:Nat} {w w':World} (h:Below w.heap.size w w'):OvR s k w w':=fun _ _ _ hb=>below_old h hb (lt_of_block hb)
theorem OvR.refl {s k:Nat} (w:World):OvR s k w w:=fun _ _ _ h=>h
section
variable {w0 w w':World} {s i:Nat} {k p c x y k' p' c' x' y' k2 p2 c2 x2 y2:Int} {L:Nat→Bool}
theorem OvS.next (h:OvS w0 s k p c x y k' p' c' x' y' k2 p2 c2 x2 y2 L w) (hi:i≠7) (hb:Below w.heap.size w w'):OvS w0 s k p c x y k' p' c' x' y' k2 p2 c2 x2 y2 (Rq.up L i) w':=by
 have e:Rq.up L i 7=L 7:=by simp [Rq.up,hi]
 unfold OvS
 rw [e]
 exact ⟨h.1.then_ hb,h.2.1.then_ hb,fun hL=>(h.2.2.1 hL).then_ hb,fun hL=>(h.2.2.2.1 hL).then_ hb,h.2.2.2.2.trans (hb.mono (Nat.le_of_lt h.1.lt))⟩
theorem OvS.stay (h:OvS w0 s k p c x y k' p' c' x' y' k2 p2 c2 x2 y2 L w) (hi:i≠7):OvS w0 s k p c x y k' p' c' x' y' k2 p2 c2 x2 y2 (Rq.up L i) w:=h.next hi (Below.refl _ _)
theorem OvS.lt (h:OvS w0 s k p c x y k' p' c' x' y' k2 p2 c2 x2 y2 L w):s + 1 + 1<w.heap.size:=by
 cases hL:L 7 with
 | true=>exact (h.2.2.2.1 hL).lt
 | false=>exact (h.2.2.1 hL).lt
theorem OvS.laid (h:OvS w0 s k p c x y k' p' c' x' y' k2 p2 c2 x2 y2 L w) (hL:L 7=false) :
  OvS w0 s k p c x y k' p' c' x' y' k2 p2 c2 x2 y2 (Rq.up L 7) (((((w.setCell ⟨s + 1 + 1,0,none⟩ (.int .i64 k2)).setCell ⟨s + 1 + 1,1,none⟩ (.int .i64 p2)).setCell ⟨s + 1 + 1,2,none⟩ (.int .i32 c2)).setCell ⟨s + 1 + 1,3,none⟩ (.int .u32 x2)).setCell ⟨s + 1 + 1,4,none⟩ (.int .u64 y2)):=by
 have e1:s≠s + 1 + 1:=by omega
 have e2:s + 1≠s + 1 + 1:=by omega
 refine ⟨((((h.1.far e1 _).far e1 _).far e1 _).far e1 _).far e1 _,((((h.2.1.far e2 _).far e2 _).far e2 _).far e2 _).far e2 _,(fun e=>by simp [Rq.up] at e),fun _=>(h.2.2.1 hL).sets _ _ _ _ _,below_sets h.2.2.2.2 (by omega) _ _ _ _ _⟩
theorem OvR.laid {k:Nat} {v0 v1 v2 v3 v4:Value}:OvR s k w (((((w.setCell ⟨s + 1 + 1,0,none⟩ v0).setCell ⟨s + 1 + 1,1,none⟩ v1).setCell ⟨s + 1 + 1,2,none⟩ v2).setCell ⟨s + 1 + 1,3,none⟩ v3).setCell ⟨s + 1 + 1,4,none⟩ v4) :=
 fun _ _ hb h=>(blk_keep _ hb).trans ((blk_keep _ hb).trans ((blk_keep _ hb).trans ((blk_keep _ hb).trans ((blk_keep _ hb).trans h))))
end
set_option maxHeartbeats 400000 in
theorem over_any (a b:Un) (w:World) :
  Calls Tryz.prog 214 #[uval a,uval b] w fun e w'=>e=.returned (uval (Pl.over a b))∧Below w.heap.size w w':=by
 have HMa:=fun w=>Lib.hid (okay_any a w)
 have HMb:=fun w=>Lib.hid (okay_any b w)
 obtain ⟨r,hr⟩ : ∃ r,r=Pl.over a b:=⟨_,rfl⟩
 rw [← hr]
 have HR:=Lib.hid hr
 clear hr
 by_cases ha:Pl.Okay a
 ·by_cases hb:Pl.Okay b
  ·by_cases h0:a.k=0
   ·rw [decide_eq_true ha] at HMa
    rw [decide_eq_true hb] at HMb
    obtain ⟨k,p,c,x,y⟩:=a
    obtain ⟨k',p',c',x',y'⟩:=b
    have HX:=Lib.hid (three_new w k p c x y k' p' c' x' y')
    have HR2:=Lib.hid (show r=⟨k,p,c,x,y⟩ from by rw [HR.out];unfold Pl.over;rw [if_neg];exact fun h=>h.2.2 h0)
    clear HR ha hb
    simp only at h0
    subst h0
    unfold uval at HMa HMb ⊢
    simp only at HMa HMb ⊢
    go_enter Tryz.func214,Tryz.ntmps214
    go_wp2_with fail
    refine (HMa _).out.mono ?_
    rintro e w1 ⟨rfl,hb1⟩
    obtain ⟨hA,hB,hC,hW⟩:=HX.out w1 hb1
    have HW1:=Lib.hid hW
    have HA1:=Lib.hid hA
    have HC1:=Lib.hid hC
    obtain ⟨b0,b1,b2,b3,b4⟩:=hB.cells
    clear hA hB hC hW hb1
    go_wp2_with fail
    refine (HMb _).out.mono ?_
    rintro e w2 ⟨rfl,hb2⟩
    have hA2:=HA1.out.then_ hb2
    have hC2:=HC1.out.then_ hb2
    obtain ⟨a0,a1,a2,a3,a4⟩:=hA2.cells
    obtain ⟨d0,d1,d2,d3,d4⟩:=hC2.cells
    have f2:=fun j=>hC2.frozen j
    have HW2:=Lib.hid (HW1.out.trans (hb2.mono (HW1.out.size)))
    have HC2:=Lib.hid hC2
    clear HW1 HA1 HC1 hA2 hC2 hb2
    clear b0 b1 b2 b3 b4
    go_wp2_with fail
    rw [HR2.out]
    exact bodyPost_ret (results_unit rfl (by rfl) (HC2.out.sets _ _ _ _ _)) rfl ⟨rfl,below_sets HW2.out (by omega) _ _ _ _ _⟩
   ·rw [decide_eq_true ha] at HMa
    rw [decide_eq_true hb] at HMb
    have HK:=Lib.hid (show b.k=0∨b.k=1∨b.k=2 from by unfold Pl.Okay at hb;omega)
    have HC:=Lib.hid (show ∀ w,Calls Tryz.prog (if b.k=0 then 251 else if b.k=1 then 252 else 254) #[uval a,uval b] w fun e w'=>e=.returned (uval r)∧Below w.heap.size w w' from by
     intro w
     rw [HR.out,show Pl.over a b=(if b.k=1 then Pl.pastIns a b else if b.k=2 then Pl.pastDel a b else a) from if_pos ⟨ha,hb,h0⟩]
     rcases HK.out with e | e | e
     ·rw [show (if b.k=0 then 251 else if b.k=1 then 252 else 254)=251 by rw [e];rfl,show (if b.k=1 then Pl.pastIns a b else if b.k=2 then Pl.pastDel a b else a)=a by rw [e];rfl]
      exact moves1_any a b w
     ·rw [show (if b.k=0 then 251 else if b.k=1 then 252 else 254)=252 by rw [e];rfl,show (if b.k=1 then Pl.pastIns a b else if b.k=2 then Pl.pastDel a b else a)=Pl.pastIns a b by rw [e];rfl]
      exact moves2_any a b w
     ·rw [show (if b.k=0 then 251 else if b.k=1 then 252 else 254)=254 by rw [e];rfl,show (if b.k=1 then Pl.pastIns a b else if b.k=2 then Pl.pastDel a b else a)=Pl.pastDel a b by rw [e];rfl]
      exact moves3_any a b w)
    clear ha hb
    obtain ⟨k,p,c,x,y⟩:=a
    obtain ⟨k',p',c',x',y'⟩:=b
    have HX:=Lib.hid (three_new w k p c x y k' p' c' x' y')
    obtain ⟨F,hF⟩ : ∃ F,F=(if k'=0 then 251 else if k'=1 then 252 else 254):=⟨_,rfl⟩
    simp only at HC h0 HK
    rw [← hF] at HC
    have HF:=Lib.hid hF
    clear hF
    unfold uval at HMa HMb HC ⊢
    simp only at HMa HMb HC ⊢
    have hk0:(k == 0)=false:=by simpa using h0
    go_enter Tryz.func214,Tryz.ntmps214
    go_wp2_with fail
    refine (HMa _).out.mono ?_
    rintro e w1 ⟨rfl,hb1⟩
    obtain ⟨hA,hB,hC,hW⟩:=HX.out w1 hb1
    have HW1:=Lib.hid hW
    have HA1:=Lib.hid hA
    have HB1:=Lib.hid hB
    have HC1:=Lib.hid hC
    obtain ⟨b0,b1,b2,b3,b4⟩:=hB.cells
    clear hA hB hC hW hb1
    go_wp2_with fail
    refine (HMb _).out.mono ?_
    rintro e w2 ⟨rfl,hb2⟩
    have hA2:=HA1.out.then_ hb2
    have hB2:=HB1.out.then_ hb2
    have hC2:=HC1.out.then_ hb2
    obtain ⟨a0,a1,a2,a3,a4⟩:=hA2.cells
    have HW2:=Lib.hid (HW1.out.trans (hb2.mono (HW1.out.size)))
    have HA2:=Lib.hid hA2
    have HB2:=Lib.hid hB2
    have HC2:=Lib.hid hC2
    clear HW1 HA1 HB1 HC1 hA2 hB2 hC2 hb2
    clear b0 b1 b2 b3 b4
    go_wp2_with fail
    clear a0 a1 a2 a3 a4
    obtain ⟨k2,p2,c2,x2,y2⟩:=r
    have HCF:=Lib.hid (show ∀ args w,(callFunc F args).run Tryz.prog w=.ok (.enter F args) w from by
     intro args w
     rw [HF.out]
     rcases HK.out with e | e | e <;> rw [e] <;> simp [go_sem])
    have hS0:OvS w w.heap.size k p c x y k' p' c' x' y' k2 p2 c2 x2 y2 (fun _=>false) w2.drew:=⟨HA2.out,HB2.out,fun _=>HC2.out,(fun h=>by cases h),below_drawn HW2.out⟩
    refine Rq.wp_region_inv (OvS w w.heap.size k p c x y k' p' c' x' y' k2 p2 c2 x2 y2) (OvR w.heap.size) (Rq.Wd.at [.pred (IsMovesN w.heap.size),.is (.pointer (some ⟨w.heap.size + 1,0,none⟩)),.is (.int .i64 k'),.is (.func (.func F) #[] #[]),.is (uval ⟨k,p,c,x,y⟩),.is (uval ⟨k',p',c',x',y'⟩),.is (uval ⟨k2,p2,c2,x2,y2⟩),.any]) (by kernel_rfl) (by kernel_rfl) (Rq.Wd.stays _ _ (fun i q hi=>(by
     rcases i with _ | _ | _ | _ | _ | _ | _ | _ | i <;> simp at hi
     subst hi
     exact fun k v w w' _ h hr=>h.keep hr))) hS0 ⟨?_,?_,?_,?_,?_,?_,?_,?_,trivial⟩ ?_
    ·intro L a w1 hL hS hb hd
     refine Rq.does_call (f:=241) (args:=#[]) (Rq.wanted_none rfl) (by simp [go_sem]) ((moves_any w1).mono ?_)
     rintro e w3 ⟨g,rfl,hm,hge,hb3⟩
     exact ⟨_,rfl,⟨g,rfl,hm,by have:=hS.lt;omega⟩,hS.next (by decide) hb3,OvR.of hb3⟩
    ·intro L a w1 hL hS hb hd
     have e3:=hb 3 (Rq.nw (by decide))
     simp [Act.eval] at e3
     exact Rq.does_pure (Rq.wanted_none rfl) (by simp [execOp,e3,go_sem]) rfl (hS.stay (by decide)) (OvR.refl _)
    ·intro L a w1 hL hS hb hd
     have p20:=(hd ⟨1,.data⟩ (by simp) rfl).2 _ _ rfl rfl
     have e20:a.tmps[20]?.getD undef=.pointer (some ⟨w.heap.size + 1,0,none⟩):=Rq.slot p20
     obtain ⟨b0,b1,b2,b3,b4⟩:=hS.2.1.cells
     exact Rq.does_pure (Rq.wanted_none rfl) (by simp [execOp,e20,go_sem,b0]) rfl (hS.stay (by decide)) (OvR.refl _)
    ·intro L a w1 hL hS hb hd
     have p19:=(hd ⟨0,.data⟩ (by simp) rfl).2 _ _ rfl rfl
     have p21:=(hd ⟨2,.data⟩ (by simp) rfl).2 _ _ rfl rfl
     have e21:a.tmps[21]?.getD undef=.int .i64 k':=Rq.slot p21
     have q19:IsMovesN w.heap.size (a.eval (.tmp 19)) w1:=p19
     have e19:a.eval (.tmp 19)=a.tmps[19]?.getD undef:=by simp [Act.eval]
     rw [e19] at q19
     have hl:=lookup_moves q19.is HK.out
     rw [← HF.out] at hl
     exact Rq.does_pure (Rq.wanted_none rfl) (by simp [execOp,e21,hl,go_sem]) rfl (hS.stay (by decide)) (OvR.refl _)
    ·intro L a w1 hL hS hb hd
     have e2:=hb 2 (Rq.nw (by decide))
     simp [Act.eval] at e2
     obtain ⟨b0,b1,b2,b3,b4⟩:=hS.1.cells
     exact Rq.does_pure (Rq.wanted_none rfl) (by simp [execOp,e2,go_sem,uval,b0,b1,b2,b3,b4]) rfl (hS.stay (by decide)) (OvR.refl _)
    ·intro L a w1 hL hS hb hd
     have e3:=hb 3 (Rq.nw (by decide))
     simp [Act.eval] at e3
     obtain ⟨b0,b1,b2,b3,b4⟩:=hS.2.1.cells
     exact Rq.does_pure (Rq.wanted_none rfl) (by simp [execOp,e3,go_sem,uval,b0,b1,b2,b3,b4]) rfl (hS.stay (by decide)) (OvR.refl _)
    ·intro L a w1 hL hS hb hd
     have p22:=(hd ⟨3,.data⟩ (by simp) rfl).2 _ _ rfl rfl
     have e22:a.tmps[22]?.getD undef=.func (.func F) #[] #[]:=Rq.slot p22
     have p23:=(hd ⟨4,.data⟩ (by simp) rfl).2 _ _ rfl rfl
     have e23:a.tmps[23]?.getD undef=uval ⟨k,p,c,x,y⟩:=Rq.slot p23
     have p24:=(hd ⟨5,.data⟩ (by simp) rfl).2 _ _ rfl rfl
     have e24:a.tmps[24]?.getD undef=uval ⟨k',p',c',x',y'⟩:=Rq.slot p24
     refine Rq.does_call (f:=F) (args:=#[uval ⟨k,p,c,x,y⟩,uval ⟨k',p',c',x',y'⟩]) (Rq.wanted_none rfl) (by simp [e22,e23,e24,go_sem,HCF.out]) ((HC.out w1).mono ?_)
     rintro e w3 ⟨rfl,hb3⟩
     exact ⟨_,rfl,rfl,hS.next (by decide) hb3,OvR.of hb3⟩
    ·intro L a w1 hL hS hb hd
     have e4:=hb 4 (Rq.nw (by decide))
     simp [Act.eval] at e4
     have p25:=(hd ⟨6,.data⟩ (by simp) rfl).2 _ _ rfl rfl
     have e25:a.tmps[25]?.getD undef=uval ⟨k2,p2,c2,x2,y2⟩:=Rq.slot p25
     have hC:=hS.2.2.1 hL
     obtain ⟨d0,d1,d2,d3,d4⟩:=hC.cells
     have f2:=fun j=>hC.frozen j
     exact Rq.does_skip rfl (Rq.wanted_none rfl) (by simp [execOp,e4,e25,uval,go_sem,d0,d1,d2,d3,d4,f2]) trivial (hS.laid hL) OvR.laid
    ·intro L v w3 hS hall hv
     have HC4:=Lib.hid (hS.2.2.2.1 (hall 7 (by decide)))
     have HW4:=Lib.hid hS.2.2.2.2
     clear hS hall hv
     simp only [Rq.putAll]
     simp only [Act.put,List.setIfInBounds_toArray,List.set_cons_succ,List.set_cons_zero]
     go_wp2_with fail
     exact bodyPost_ret (results_unit rfl (by rfl) HC4.out) rfl ⟨rfl,HW4.out⟩
  ·rw [decide_eq_true ha] at HMa
   rw [decide_eq_false hb] at HMb
   obtain ⟨k,p,c,x,y⟩:=a
   obtain ⟨k',p',c',x',y'⟩:=b
   have HX:=Lib.hid (three_new w k p c x y k' p' c' x' y')
   have HR2:=Lib.hid (show r=⟨k,p,c,x,y⟩ from by rw [HR.out];unfold Pl.over;rw [if_neg];exact fun h=>hb h.2.1)
   clear HR ha hb
   unfold uval at HMa HMb ⊢
   simp only at HMa HMb ⊢
   go_enter Tryz.func214,Tryz.ntmps214
   go_wp2_with fail
   refine (HMa _).out.mono ?_
   rintro e w1 ⟨rfl,hb1⟩
   obtain ⟨hA,hB,hC,hW⟩:=HX.out w1 hb1
   have HW1:=Lib.hid hW
   have HA1:=Lib.hid hA
   have HC1:=Lib.hid hC
   obtain ⟨b0,b1,b2,b3,b4⟩:=hB.cells
   clear hA hB hC hW hb1
   go_wp2_with fail
   refine (HMb _).out.mono ?_
   rintro e w2 ⟨rfl,hb2⟩
   have hA2:=HA1.out.then_ hb2
   have hC2:=HC1.out.then_ hb2
   obtain ⟨a0,a1,a2,a3,a4⟩:=hA2.cells
   obtain ⟨d0,d1,d2,d3,d4⟩:=hC2.cells
   have f2:=fun j=>hC2.frozen j
   have HW2:=Lib.hid (HW1.out.trans (hb2.mono (HW1.out.size)))
   have HC2:=Lib.hid hC2
   clear HW1 HA1 HC1 hA2 hC2 hb2
   clear b0 b1 b2 b3 b4
   go_wp2_with fail
   rw [HR2.out]
   exact bodyPost_ret (results_unit rfl (by rfl) (HC2.out.sets _ _ _ _ _)) rfl ⟨rfl,below_sets HW2.out (by omega) _ _ _ _ _⟩
 ·rw [decide_eq_false ha] at HMa
  obtain ⟨k,p,c,x,y⟩:=a
  obtain ⟨k',p',c',x',y'⟩:=b
  have HX:=Lib.hid (three_new w k p c x y k' p' c' x' y')
  have HR2:=Lib.hid (show r=⟨k,p,c,x,y⟩ from by rw [HR.out];unfold Pl.over;rw [if_neg];exact fun h=>ha h.1)
  clear HR ha
  unfold uval at HMa HMb ⊢
  simp only at HMa HMb ⊢
  go_enter Tryz.func214,Tryz.ntmps214
  go_wp2_with fail
  refine (HMa _).out.mono ?_
  rintro e w1 ⟨rfl,hb1⟩
  obtain ⟨hA,hB,hC,hW⟩:=HX.out w1 hb1
  have HW1:=Lib.hid hW
  have HC1:=Lib.hid hC
  obtain ⟨a0,a1,a2,a3,a4⟩:=hA.cells
  obtain ⟨d0,d1,d2,d3,d4⟩:=hC.cells
  have f2:=fun j=>hC.frozen j
  clear hA hB hC hW hb1
  go_wp2_with fail
  rw [HR2.out]
  exact bodyPost_ret (results_unit rfl (by rfl) (HC1.out.sets _ _ _ _ _)) rfl ⟨rfl,below_sets HW1.out (by omega) _ _ _ _ _⟩
open Go.RowKit
open Pl (Un)
theorem equalIn_id (n:Nat) (x y x' y':Int) (w:World):(Op.equalIn (n + 2) 43 (.agg #[.int .u32 x,.int .u64 y]) (.agg #[.int .u32 x',.int .u64 y'])).run Tryz.prog w=.ok (decide (x=x'∧y=y')) w:=by
 have hS:Tryz.prog.underlying 43=some (.struct (Tryz.prog.fieldsOf 43)):=by kernel_rfl
 have hp:Tryz.prog.stoodInHeld 43=false:=by kernel_rfl
 have u3:=Tryz.underlying28
 have u4:=Tryz.underlying27
 rw [run_equalIn_agg w (n + 1) 43 _ _ hS hp]
 simp only [Program.fieldsOf,Tryz.underlying43]
 go_simp
 by_cases h1:x=x' <;> by_cases h2:y=y' <;> simp [h1,h2]
theorem equalIn_unit (k p c x y k' p' c' x' y':Int) (w:World):(Op.equalIn 10000 47 (.agg #[.int .i64 k,.int .i64 p,.int .i32 c,.int .u32 x,.int .u64 y]) (.agg #[.int .i64 k',.int .i64 p',.int .i32 c',.int .u32 x',.int .u64 y'])).run Tryz.prog w=.ok (decide ((⟨k,p,c,x,y⟩ : Un)=⟨k',p',c',x',y'⟩)) w:=by
 have hS:Tryz.prog.underlying 47=some (.struct (Tryz.prog.fieldsOf 47)):=by kernel_rfl
 have hp:Tryz.prog.stoodInHeld 47=false:=by kernel_rfl
 have u1:=Tryz.underlying3
 have u2:=Tryz.underlying41
 have hid:=equalIn_id 9997 x y x' y'
 rw [show (10000:Nat)=9999 + 1 from rfl,run_equalIn_agg w 9999 47 _ _ hS hp]
 simp only [Program.fieldsOf,Tryz.underlying47]
 go_simp
 by_cases h1:k=k' <;> by_cases h2:p=p' <;> by_cases h3:c=c' <;> by_cases h4:x=x' <;> by_cases h5:y=y' <;> simp [h1,h2,h3,h4,h5]
theorem neq_unit (k p c x y k' p' c' x' y':Int) (w:World):(binOp .neq 47 (.agg #[.int .i64 k,.int .i64 p,.int .i32 c,.int .u32 x,.int .u64 y]) (.agg #[.int .i64 k',.int .i64 p',.int .i32 c',.int .u32 x',.int .u64 y'])).run Tryz.prog w=.ok (.bool (!decide ((⟨k,p,c,x,y⟩ : Un)=⟨k',p',c',x',y'⟩))) w:=by
 rw [run_neq_struct,equalIn_unit];rfl
theorem guard_unit (op:BinOp) (x y:Operand) (xs ys:Array Value) (w:World):(eqGuard op 47 x y (.agg xs) (.agg ys)).run Tryz.prog w=.ok () w:=run_eqGuard_agg w op _ x y xs ys (by kernel_rfl)
theorem guard_id (op:BinOp) (x y:Operand) (xs ys:Array Value) (w:World):(eqGuard op 43 x y (.agg xs) (.agg ys)).run Tryz.prog w=.ok () w:=run_eqGuard_agg w op _ x y xs ys (by kernel_rfl)
open Go.RowKit Go.ChangeShapes Go.WideShapes
open Pl (Un)
def Pl.UnB (u:Un):Prop:=Pl.I u.k∧Pl.I u.p∧Pl.J u.c∧(0≤u.x∧u.x≤4294967295)∧0≤u.y∧u.y≤18446744073709551615
def Pl.IdB (x y:Int):Prop:=(0≤x∧x≤4294967295)∧0≤y∧y≤18446744073709551615
section
variable {H:Type} {enc:TypeId × Value→H} {W:World}
theorem open_id_cells {fuel:Nat} {a b:Value} {z:DataW H × List MemPlace} (h:DataW.trod enc Tryz.prog W 0 (fun _=>true) true fuel 43 [a,b]=some z):∃ x y,a=.int .u32 x∧b=.int .u64 y∧Pl.IdB x y:=by
 obtain ⟨y0,y1,n,_,_,h0,h1⟩:=trod_struct2 Tryz.underlying43 h
 simp only at h0 h1
 rw [show Tryz.prog.cellsOf 28=1 from by kernel_rfl] at h0
 rw [show Tryz.prog.cellsOf 27=1 from by kernel_rfl] at h1
 simp only [List.drop_zero,List.drop_succ_cons,List.take_succ_cons,List.take_zero] at h0 h1
 obtain ⟨x,e0,_,w0⟩:=DataW.trod_int Tryz.underlying28 h0
 obtain ⟨y,e1,_,w1⟩:=DataW.trod_int Tryz.underlying27 h1
 have b0:=bounds_u32 w0
 have b1:=bounds_u64 w1
 exact ⟨x,y,(List.cons.inj e0).1,(List.cons.inj e1).1,by unfold Pl.IdB;omega⟩
theorem trod_struct4 {P:Program} {w:World} {base:Nat} {spare:Nat→Bool} {held:Bool} {t:TypeId} {f0 f1 f2 f3:Field} {fuel:Nat} {cs:List Value} {x:DataW H × List MemPlace} (ht:P.underlying t=some (.struct #[f0,f1,f2,f3])) (h:DataW.trod enc P w base spare held fuel t cs=some x) :
  ∃ y0 y1 y2 y3 n,DataW.trod enc P w base spare held n f0.type ((cs.drop f0.offset).take (P.cellsOf f0.type))=some y0∧DataW.trod enc P w base spare held n f1.type ((cs.drop f1.offset).take (P.cellsOf f1.type))=some y1 ∧
   DataW.trod enc P w base spare held n f2.type ((cs.drop f2.offset).take (P.cellsOf f2.type))=some y2∧DataW.trod enc P w base spare held n f3.type ((cs.drop f3.offset).take (P.cellsOf f3.type))=some y3:=by
 obtain ⟨xs,n,_,rfl,hl,hlen,hf⟩:=DataW.trod_struct ht h
 match xs,hlen with
 | [y0,y1,y2,y3],_=>exact ⟨y0,y1,y2,y3,n,by simpa using hf 0 f0 rfl,by simpa using hf 1 f1 rfl,by simpa using hf 2 f2 rfl,by simpa using hf 3 f3 rfl⟩
end
end Go.Proofs.YtlgdcelgkiipaaaGreat
