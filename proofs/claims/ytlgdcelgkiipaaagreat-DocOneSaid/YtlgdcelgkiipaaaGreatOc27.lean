/-
  Contracts of piece: reach, follows, stretch, New; of slices.Clone at code points and at pieces. Conditions: the table is one, or none; the buffers have at most 2^30 code points.
  Contracts of piece: the closure that lays a piece behind others and joins it (renew$1); part, for any closure whose own contract is known; New. Conditions: the buffers have at most 2^30 code points.
-/
import Derived.Test.YtlgdcelgkiipaaaGreatOc26
set_option maxRecDepth 100000
set_option linter.unusedVariables false
namespace Go.Proofs.YtlgdcelgkiipaaaGreat.Tbl
open Go.RowKit
open Tp (Pc Plc Tab)
theorem ret_int {x y:Int} (h:x=y):Ending.returned (.int .i64 x)=.returned (.int .i64 y):=by rw [h]
theorem ret_bool {x y:Bool} (h:x=y):Ending.returned (.bool x)=.returned (.bool y):=by rw [h]
def Tp.I (x:Int):Prop:=-9223372036854775808≤x∧x≤9223372036854775807
theorem Tp.I.out {x:Int} (h:Tp.I x):-9223372036854775808≤x∧x≤9223372036854775807:=h
theorem Tp.I.mk {x:Int} (h:-9223372036854775808≤x∧x≤9223372036854775807):Tp.I x:=h
def Tp.reachE (len:Nat) (pos n:Int):Int:=if pos<0∨n<0∨n > (len:Int) - pos then 30 else 0
set_option maxHeartbeats 400000 in
theorem reach_no {w:World} {A:Option Addr} (pos n:Int) (h:NoTb w A) :
  Calls Tryz.prog 224 #[.pointer A,.int .i64 pos,.int .i64 n] w fun e w'=>e=.returned (.int .i64 2)∧w=w':=by
 have HN:=Lib.hid (none_no h)
 clear h
 go_enter Tryz.func224,Tryz.ntmps224
 go_wp2_with fail
 refine HN.out.mono ?_
 rintro e w' ⟨rfl,rfl⟩
 go_wp2_with fail
 go_ret
 exact ⟨rfl,rfl⟩
set_option maxHeartbeats 400000 in
theorem reach_tb {w:World} {F:Nat→Prop} {p:Nat} {t:Tab} {m:Nat} (h:Tb w F p t m) (pos n:Int) (hp:Tp.I pos) :
  Calls Tryz.prog 224 #[.pointer (some ⟨p,0,none⟩),.int .i64 pos,.int .i64 n] w fun e w'=>e=.returned (.int .i64 (Tp.reachE t.L.length pos n))∧Below w.heap.size w w':=by
 have HN:=Lib.hid (none_tb h)
 have HL:=Lib.hid (len_tb h)
 have hlen:=h.ok.len
 have hmm:=h.le
 have hp2:=hp.out
 obtain ⟨N,hN⟩ : ∃ N,N=t.L.length:=⟨_,rfl⟩
 rw [← hN] at HL hlen ⊢
 have hbd:N≤1073741824:=by omega
 clear h hp hlen hmm hN
 go_enter Tryz.func224,Tryz.ntmps224
 go_wp2_with fail
 refine HN.out.mono ?_
 rintro e w' ⟨rfl,rfl⟩
 by_cases h1:pos<0
 ·have HE:=Lib.hid (show Tp.reachE N pos n=30 by unfold Tp.reachE;rw [if_pos (by omega)])
  have b1:decide (pos<0)=true:=decide_eq_true h1
  clear h1
  go_wp2_with fail
  go_ret
  exact ⟨ret_int HE.out.symm,Below.refl _ _⟩
 ·have b1:decide (pos<0)=false:=decide_eq_false h1
  by_cases h2:n<0
  ·have HE:=Lib.hid (show Tp.reachE N pos n=30 by unfold Tp.reachE;rw [if_pos (by omega)])
   have b2:decide (n<0)=true:=decide_eq_true h2
   clear h2
   go_wp2_with fail
   go_ret
   exact ⟨ret_int HE.out.symm,Below.refl _ _⟩
  ·have b2:decide (n<0)=false:=decide_eq_false h2
   have hp0:0≤pos:=by omega
   by_cases h3:n > (N:Int) - pos
   ·have HE:=Lib.hid (show Tp.reachE N pos n=30 by unfold Tp.reachE;rw [if_pos (by omega)])
    clear h1 h2
    go_wp2_with fail
    refine HL.out.mono ?_
    rintro e w1 ⟨rfl,hb⟩
    have HB:=Lib.hid hb
    clear hb
    go_wp2_with fail
    go_ret
    exact ⟨ret_int HE.out.symm,HB.out⟩
   ·have HE:=Lib.hid (show Tp.reachE N pos n=0 by unfold Tp.reachE;rw [if_neg (by omega)])
    clear h1 h2
    go_wp2_with fail
    refine HL.out.mono ?_
    rintro e w1 ⟨rfl,hb⟩
    have HB:=Lib.hid hb
    clear hb
    go_wp2_with fail
    go_ret
    exact ⟨ret_int HE.out.symm,HB.out⟩
set_option maxHeartbeats 400000 in
theorem follows_any (a b:Pc) (w:World) (ha:a.at_ + a.len≤1073741824) :
  Calls Tryz.prog 250 #[aggP a,aggP b] w fun e w'=>e=.returned (.bool (decide (Tp.Fol a b)))∧Below w.heap.size w w':=by
 obtain ⟨s,k,l⟩:=a
 obtain ⟨s',k',l'⟩:=b
 unfold aggP
 simp only at ha ⊢
 obtain ⟨W,hW⟩ : ∃ W,W=(w.alloc (.cells #[.bool s,.int .i64 (k:Int),.int .i64 (l:Int)] 183)).alloc (.cells #[.bool s',.int .i64 (k':Int),.int .i64 (l':Int)] 183):=⟨_,rfl⟩
 have HB:=Lib.hid (show Below w.heap.size w W by rw [hW];exact below_alloc ((Below.refl _ w).alloc (Nat.le_refl _) _) _)
 by_cases hs:s=s'
 ·have b1:(s == s')=true:=by rw [hs];exact beq_self_eq_true s'
  have HE:=Lib.hid (show decide (Tp.Fol ⟨s,k,l⟩ ⟨s',k',l'⟩)=decide ((k:Int) + (l:Int)=(k':Int)) from decide_eq_decide.2 ⟨fun h=>by have:=h.2;simp only at this;omega,fun h=>⟨hs,by simp only;omega⟩⟩)
  clear hs
  rw [HE.out]
  go_enter Tryz.func250,Tryz.ntmps250
  go_wp2_with fail
  rw [← hW]
  go_ret
  exact ⟨rfl,HB.out⟩
 ·have b1:(s == s')=false:=beq_eq_false_iff_ne.2 hs
  have HE:=Lib.hid (show decide (Tp.Fol ⟨s,k,l⟩ ⟨s',k',l'⟩)=false from decide_eq_false fun h=>hs h.1)
  clear hs
  rw [HE.out]
  go_enter Tryz.func250,Tryz.ntmps250
  go_wp2_with fail
  rw [← hW]
  go_ret
  exact ⟨rfl,HB.out⟩
theorem _root_.Go.Proofs.YtlgdcelgkiipaaaGreat.Crs.mid3 {w:World} {B n c k m:Nat} {A:Option Addr} {bs:List Int} (h:Crs w B A n c bs) (hk:k≤m) (hm:m≤n) :
  ∃ A2,Crs w B A2 (m - k) (m - k) ((bs.drop k).take (m - k))∧(∀ ad2,A2=some ad2→∃ ad,A=some ad∧ad2.block=ad.block) ∧
   ∀ w',(Instr.sliceAt 33 (.slice A n c) (some (.int .i64 (k:Int))) (some (.int .i64 (m:Int))) (some (.int .i64 (m:Int)))).run Tryz.prog w'=.ok (.slice A2 (m - k) (m - k)) w':=by
 have hle:=h.le
 obtain ⟨i0,hi,_⟩:=info_parts infoChar
 have hu:Tryz.prog.underlying 33=some (.slice (Tryz.prog.elem 33)):=by kernel_rfl
 have he:Tryz.prog.elem 33=41:=by kernel_rfl
 have hrun:∀ w',(Instr.sliceAt 33 (.slice A n c) (some (.int .i64 (k:Int))) (some (.int .i64 (m:Int))) (some (.int .i64 (m:Int)))).run Tryz.prog w'=.ok (sliced A k m m 1) w':=by
  intro w'
  rw [run_sliceAt_slice w' _ _ _ _ _ hu,run_slice_lhm w' 33 A n c hu .i64 .i64 .i64 (k:Int) (m:Int) (m:Int) (by omega) (by omega) (by omega) (by omega),he,run_sizeOf w' hi]
  simp [Result.andThen,cellsChar]
 have hl:=h.len
 have hc:=h.cap
 by_cases hck:m=k
 ·refine ⟨A,?_,(fun ad2 e=>⟨ad2,e,rfl⟩),fun w'=>by rw [hrun];simp [sliced,hck]⟩
  have h0:m - k=0:=by omega
  rw [h0,List.take_zero]
  exact ⟨rfl,Nat.le_refl _,Nat.zero_le _,(fun _=>rfl),(fun x hx=>by cases hx),fun h=>absurd h (by omega)⟩
 ·refine ⟨A.map (·.add k),?_,fun ad2 e=>?_,fun w'=>by rw [hrun];simp [sliced,hck]⟩
  ·refine ⟨by rw [List.length_take,List.length_drop,hl];omega,Nat.le_refl _,by omega,(fun e=>?_),(fun x hx=>h.js x (List.mem_of_mem_drop (List.mem_of_mem_take hx))),fun h0=>?_⟩
   ·cases A with
    | none=>have:=h.nil_ rfl;omega
    | some ad=>cases e
   ·obtain ⟨g,o,e,hg,hcell⟩:=h.at_ (i:=k) (by omega)
    subst e
    refine ⟨g,o + k,by rw [← Addr.add_lit g o k];rfl,hg,fun i hi=>?_⟩
    rw [Nat.add_assoc,hcell (k + i) (by omega),List.getD_eq_getElem?_getD,List.getD_eq_getElem?_getD,List.getElem?_take,if_pos hi,List.getElem?_drop]
  ·cases A with
   | none=>cases e
   | some ad=>cases e;exact ⟨ad,rfl,by unfold Addr.add;split <;> rfl⟩
set_option maxHeartbeats 400000 in
theorem stretch_tb {w:World} {F:Nat→Prop} {p:Nat} {t:Tab} {m:Nat} (h:Tb w F p t m) (x:Pc) (hx:x.at_ + x.len≤(t.buf x.s).length) :
  Calls Tryz.prog 227 #[.pointer (some ⟨p,0,none⟩),aggP x] w fun e w'=>∃ A,e=.returned (.slice A x.len x.len)∧Crs w' w.heap.size A x.len x.len (t.str x)∧Below w.heap.size w w':=by
 have hok:=h.ok
 have hm:=h.le
 have hlt:=h.lt
 obtain ⟨_,_,_,hp,A1,c1,q,A2,c2,A3,c3,h1,h2,h3,h4,h5,h6,h7,h8,h9,h10⟩:=h
 have k0:=cell0 h1
 have k1:=cell1 h1
 have j0:=cell0 h2
 have r1:=h3.crs.2
 have r2:=h4.crs.2
 have hb1:=hok.2.2
 obtain ⟨s,k,l⟩:=x
 unfold aggP
 simp only at hx ⊢
 obtain ⟨W,hW⟩ : ∃ W,W=w.alloc (.cells #[.bool s,.int .i64 (k:Int),.int .i64 (l:Int)] 183):=⟨_,rfl⟩
 have hb:Below w.heap.size w W:=by rw [hW];exact (Below.refl _ w).alloc (Nat.le_refl _) _
 have zp:=hlt p hp
 have zq:=hlt q h6
 have hm3:∃ A n c A',(if s=true then Value.slice A2 t.snd.length c2 else Value.slice A1 t.fst.length c1)=.slice A n c∧k + l≤1073741824∧Crs w w.heap.size A' l l (t.str ⟨s,k,l⟩) ∧
   ∀ w',(Instr.sliceAt 33 (.slice A n c) (some (.int .i64 (k:Int))) (some (.int .i64 ((k:Int) + (l:Int)))) (some (.int .i64 ((k:Int) + (l:Int))))).run Tryz.prog w'=.ok (.slice A' l l) w':=by
  cases s with
  | true =>
   obtain ⟨A',hA,_,hr⟩:=r2.mid3 (k:=k) (m:=k + l) (by omega) hx
   rw [Nat.add_sub_cancel_left] at hA hr
   exact ⟨A2,_,c2,A',rfl,by have:k + l≤t.snd.length:=hx;omega,hA,fun w'=>by have:=hr w';rwa [Int.natCast_add] at this⟩
  | false =>
   obtain ⟨A',hA,_,hr⟩:=r1.mid3 (k:=k) (m:=k + l) (by omega) hx
   rw [Nat.add_sub_cancel_left] at hA hr
   exact ⟨A1,_,c1,A',rfl,by have:k + l≤t.fst.length:=hx;omega,hA,fun w'=>by have:=hr w';rwa [Int.natCast_add] at this⟩
 obtain ⟨A,n,c,A',hv,hbd,hc,hr⟩:=hm3
 have HC:=Lib.hid (And.intro (hc.below hb (Nat.le_refl _)) hb)
 clear h1 h2 h3 h4 h5 h6 h7 h8 h9 h10 r1 r2 hok hlt hp hc hb hx hb1 hm
 cases s with
 | true =>
  simp only [if_true] at hv
  injection hv with e1 e2 e3
  subst e1 e2 e3
  go_enter Tryz.func227,Tryz.ntmps227
  go_wp2_with fail
  rw [← hW]
  go_ret
  exact ⟨A',rfl,HC.out⟩
 | false =>
  simp only [Bool.false_eq_true,if_false] at hv
  injection hv with e1 e2 e3
  subst e1 e2 e3
  go_enter Tryz.func227,Tryz.ntmps227
  go_wp2_with fail
  rw [← hW]
  go_ret
  exact ⟨A',rfl,HC.out⟩
theorem eqlC_nil (A:Option Addr) (n c:Nat) (w:World):(binOp .eql 33 (.slice A n c) (.slice none 0 0)).run Tryz.prog w=.ok (.bool A.isNone) w:=Lib.run_eql_slice_nil w _ _ A n c 0 0 Tryz.underlying33
def RetC (w:World) (cs:List Int) (e:Ending) (w':World):Prop:=∃ A c,e=.returned (.slice A cs.length c)∧OwnC w' w.heap.size (.slice A cs.length c) cs∧Below w.heap.size w w'
set_option maxHeartbeats 400000 in
theorem cloneC_any (A:Option Addr) (n c:Nat) (cs:List Int) (w:World) (h1:Crs w w.heap.size A n c cs) (hr:n * 4≤140737488355328) :
  Calls Tryz.prog 98 #[.slice A n c] w (RetC w cs):=by
 cases A with
 | none =>
  have hc:c=0:=h1.nil_ rfl
  have hn:n=0:=by have:=h1.le;omega
  subst hc hn
  obtain rfl:cs=[]:=List.eq_nil_of_length_eq_zero h1.len
  have q:=eqlC_nil none 0 0
  go_enter Tryz.func98,Tryz.ntmps98
  go_wp2
  go_ret
  exact ⟨none,0,rfl,OwnC.nil_ _ _,Below.refl _ _⟩
 | some ad =>
  have q:=eqlC_nil (some ad) n c
  have hb1:Below w.heap.size w (w.alloc (.cells #[] 41)):=(Below.refl _ _).alloc (Nat.le_refl _) _
  have HB:=Lib.hid (h1.below hb1 (Nat.le_refl _))
  have HV:=Lib.hid (show OwnC (w.alloc (.cells #[] 41)) w.heap.size (.slice (some ⟨w.heap.size,0,none⟩) 0 0) [] from crs_lit w [] (fun x hx=>by cases hx) (by simp))
  have HL:=Lib.hid h1.len
  have HB1:=Lib.hid hb1
  clear h1 hb1
  go_enter Tryz.func98,Tryz.ntmps98
  go_wp2_with (at_builtin;refine wpList_append_crs (w.alloc (.cells #[] 41)) rfl (.tmp 5) (.tmp 6) rfl w.heap.size _ _ _ [] (by rfl) HV.out w.heap.size _ _ _ cs (by rfl) HB.out (by omega) (by simp) ?_)
  intro A2 c2 w2 hV2 hg2 hx2
  have hb2:=below_appendC HV.out hg2 HB1.out (by simp)
  clear hx2 hg2
  have hV2:OwnC w2 w.heap.size (.slice A2 n c2) cs:=by simpa using hV2
  have H2:=Lib.hid (And.intro hV2 hb2)
  clear hV2 hb2
  go_wp2
  go_ret
  refine ⟨A2,c2,?_,?_,H2.out.2⟩
  ·rw [HL.out];simp
  ·rw [HL.out];exact H2.out.1
open Go.RowKit
open Tp (Pc Plc Tab)
def JL (base N:Nat) (G:Nat→Prop) (out:List Pc) (w:World):Prop :=
 ∃ A c,w.heap[N]?=some (.cells #[.slice A out.length c] 179 (0,0))∧OwnP w base (.slice A out.length c) out∧(∀ g,Value.ownBlock (.slice A out.length c)=some g→G g∧g≠N)∧(G N∧∀ b,G b→base≤b∧b<w.heap.size) ∧
  ∀ x ∈ out,x.at_ + x.len≤1073741824
theorem JL.grow {base N:Nat} {G:Nat→Prop} {out:List Pc} {w w':World} (h:JL base N G out w) (hb:Below w.heap.size w w'):JL base N G out w':=by
 obtain ⟨A,c,h1,h2,h3,h4,h5⟩:=h
 exact ⟨A,c,below_old hb h1 (lt_of_block h1),OwnR.then_ h2 hb,h3,⟨h4.1,fun b hG=>⟨(h4.2 b hG).1,Nat.lt_of_lt_of_le (h4.2 b hG).2 hb.size⟩⟩,h5⟩
theorem JL.lt {base N:Nat} {G:Nat→Prop} {out:List Pc} {w:World} (h:JL base N G out w):∀ b,G b→base≤b∧b<w.heap.size:=by
 obtain ⟨A,c,h1,h2,h3,h4,h5⟩:=h
 exact h4.2
def More (G:Nat→Prop) (w w':World) (b:Nat):Prop:=G b∨w.heap.size≤b∧b<w'.heap.size
theorem aggP_eq (p:Pc):aggP p=.agg #[.bool p.s,.int .i64 (p.at_:Int),.int .i64 (p.len:Int)]:=rfl
theorem oneP_row (w:World) (p:Pc):Rws encP (w.alloc (.cells #[.bool p.s,.int .i64 (p.at_:Int),.int .i64 (p.len:Int)] 183)) (w.heap.size + 1) (some ⟨w.heap.size,0,none⟩) 1 1 [p]:=by
 have:=(OwnR.rws encP_len (OwnR.lit (e:=183) encP_len w [p] (by simp [maxLen]))).2
 simpa [cellsR,encP] using this
theorem OwnP.cells {w:World} {base g n c:Nat} {ps:List Pc} (h:OwnP w base (.slice (some ⟨g,0,none⟩) n c) ps) {i:Nat} (hi:i<n) :
  w.cell? ⟨g,i * 3,none⟩=some (.bool (ps.getD i default).s)∧w.cell? ⟨g,i * 3 + 1,none⟩=some (.int .i64 ((ps.getD i default).at_:Int))∧w.cell? ⟨g,i * 3 + 2,none⟩=some (.int .i64 ((ps.getD i default).len:Int))∧∀ j,w.frozen? ⟨g,j,none⟩=false:=by
 obtain ⟨hn,_⟩:=OwnR.rws encP_len h
 have h':w.ownsRow base 183 3 (.slice (some ⟨g,0,none⟩) n c) n (cellsR encP ps):=by
  have h1:w.ownsRow base 183 3 (.slice (some ⟨g,0,none⟩) n c) ps.length (cellsR encP ps):=h
  rwa [← hn] at h1
 have hat:=fun j (hj:j<3)=>(World.ownsRow.cellAt h' (i * 3 + j) (by omega)).trans (cellsR_at encP_len ps i j (by omega) hj)
 exact ⟨hat 0 (by decide),hat 1 (by decide),hat 2 (by decide),fun j=>World.ownsRow.frozenAt h' j⟩
theorem lay_yes {out:List Pc} {p:Pc} {k:Nat} (hk:out.length=k + 1) (h:Tp.Fol (out.getD k default) p):Tp.lay out p=out.set k ⟨(out.getD k default).s,(out.getD k default).at_,(out.getD k default).len + p.len⟩:=by
 unfold Tp.lay
 rw [show out.length - 1=k by omega,if_pos ⟨by omega,h⟩]
theorem lay_no {out:List Pc} {p:Pc} {k:Nat} (hk:out.length=k + 1) (h:¬ Tp.Fol (out.getD k default) p):Tp.lay out p=out ++ [p]:=by
 unfold Tp.lay
 rw [show out.length - 1=k by omega,if_neg (fun h2=>h h2.2)]
theorem jl_append {base N:Nat} {G:Nat→Prop} {out:List Pc} {p:Pc} {w w2 w3:World} {A A2:Option Addr} {c c2:Nat} (h1:w2.heap[N]?=some (.cells #[.slice A out.length c] 179 (0,0)))
  (h3:∀ g,Value.ownBlock (.slice A out.length c)=some g→G g∧g≠N) (h4:G N∧∀ b,G b→base≤b∧b<w.heap.size) (h5:∀ x ∈ out,x.at_ + x.len≤1073741824) (hp:p.at_ + p.len≤1073741824)
  (hV:OwnP w3 base (.slice A2 (out.length + 1) c2) (out ++ [p])) (hg:w2.grownBy w3 (Value.ownBlock (.slice A out.length c))) (hbase:base≤w.heap.size) (hw2:w.heap.size≤w2.heap.size)
  (hat:Value.ownBlock (.slice A2 (out.length + 1) c2)=Value.ownBlock (.slice A out.length c)∨Value.ownBlock (.slice A2 (out.length + 1) c2)=some w2.heap.size) (hN:N<w2.heap.size) :
  JL base N (More G w (w3.setCell ⟨N,0,none⟩ (.slice A2 (out.length + 1) c2))) (out ++ [p]) (w3.setCell ⟨N,0,none⟩ (.slice A2 (out.length + 1) c2)):=by
 have p3:w3.heap[N]?=some (.cells #[.slice A out.length c] 179 (0,0)):=(hg.block N hN (fun e=>(h3 N e.symm).2 rfl)).trans h1
 have hsz:(w3.setCell ⟨N,0,none⟩ (.slice A2 (out.length + 1) c2)).heap.size=w3.heap.size:=by simp [World.setCell]
 have hne:∀ g,Value.ownBlock (.slice A2 (out.length + 1) c2)=some g→More G w (w3.setCell ⟨N,0,none⟩ (.slice A2 (out.length + 1) c2)) g∧g≠N:=fun g e=>by
  have hlt:=(OwnR.lt hV g e).2
  rcases hat with h | h
  ·exact ⟨Or.inl (h3 g (h ▸ e)).1,(h3 g (h ▸ e)).2⟩
  ·rw [h] at e
   cases e
   exact ⟨Or.inr ⟨hw2,by rw [hsz];exact hlt⟩,by omega⟩
 have hl:(out ++ [p]).length=out.length + 1:=by simp
 refine ⟨A2,c2,?_,?_,?_,⟨Or.inl h4.1,fun b hG=>?_⟩,fun x hx=>?_⟩
 ·rw [blk_set p3,hl];rfl
 ·rw [hl]
  exact OwnR.same hV fun g _ _ e=>Below.heap_setCell _ _ _ _ (hne g e).2
 ·rw [hl];exact hne
 ·have:=hg.size
  rcases hG with hG | hG
  ·have:=h4.2 b hG
   rw [hsz];omega
  ·omega
 ·rcases List.mem_append.1 hx with hx | hx
  ·exact h5 x hx
  ·simp at hx;rw [hx];exact hp
set_option maxHeartbeats 1000000 in
theorem lay_any (base N:Nat) (G:Nat→Prop) (out:List Pc) (p:Pc) (w:World) (h:JL base N G out w) (hp:p.at_ + p.len≤1073741824) (hout:out.length≤8589934592) (hbase:base≤w.heap.size) :
  Calls Tryz.prog 249 #[aggP p,.pointer (some ⟨N,0,none⟩)] w fun e w'=>e=.returned (.tuple #[])∧JL base N (More G w w') (Tp.lay out p) w'∧Tn G w w':=by
 obtain ⟨A,c,h1,h2,h3,h4,h5⟩:=h
 have hN:=lt_of_block h1
 obtain ⟨W,hW⟩ : ∃ W,W=w.alloc (.cells #[.bool p.s,.int .i64 (p.at_:Int),.int .i64 (p.len:Int)] 183):=⟨_,rfl⟩
 have hsz:W.heap.size=w.heap.size + 1:=by rw [hW];simp
 have hb:Below w.heap.size w W:=by rw [hW];exact (Below.refl _ w).alloc (Nat.le_refl _) _
 have p1:W.heap[N]?=some (.cells #[.slice A out.length c] 179 (0,0)):=below_old hb h1 hN
 have pb:W.heap[w.heap.size]?=some (.cells #[.bool p.s,.int .i64 (p.at_:Int),.int .i64 (p.len:Int)] 183 (0,0)):=by rw [hW];exact heap_alloc_new w _
 have hO:=OwnR.then_ h2 hb
 have q0:=cell0 p1
 rw [hW] at q0
 have b0:=cell0 pb
 have b1:=cell1 pb
 have b2:=cell2 pb
 have HK:=Lib.hid (And.intro p1 (And.intro hO (And.intro h3 (And.intro h4 (And.intro h5 (And.intro hb (And.intro hsz (And.intro hN (And.intro hp hout)))))))))
 have HPB:=Lib.hid pb
 -- what the last row leaves
 have HAP:=Lib.hid (show ∀ w2,Below W.heap.size W w2→∀ A2 c2 w3,OwnP w3 base (.slice A2 (out.length + 1) c2) (out ++ [p])→(w2.alloc (.cells #[.bool p.s,.int .i64 (p.at_:Int),.int .i64 (p.len:Int)] 183)).grownBy w3 (Value.ownBlock (.slice A out.length c)) →
   (Value.ownBlock (.slice A2 (out.length + 1) c2)=Value.ownBlock (.slice A out.length c)∨Value.ownBlock (.slice A2 (out.length + 1) c2)=some (w2.heap.size + 1)) →
   JL base N (More G w (w3.setCell ⟨N,0,none⟩ (.slice A2 (out.length + 1) c2))) (out ++ [p]) (w3.setCell ⟨N,0,none⟩ (.slice A2 (out.length + 1) c2))∧Tn G w (w3.setCell ⟨N,0,none⟩ (.slice A2 (out.length + 1) c2)) from by
  intro w2 hb2 A2 c2 w3 hV hg hat
  obtain ⟨p1,hO,h3,h4,h5,hb,hsz,hN,hp,hout⟩:=HK.out
  have z2:=hb2.size
  have hb3:=hb2.alloc z2 (.cells #[.bool p.s,.int .i64 (p.at_:Int),.int .i64 (p.len:Int)] 183)
  refine ⟨jl_append (below_old hb3 p1 (by omega)) h3 h4 h5 hp hV hg hbase (by simp;omega) (by simpa using hat) (by simp;omega),?_⟩
  have hb4:Below w.heap.size w (w2.alloc (.cells #[.bool p.s,.int .i64 (p.at_:Int),.int .i64 (p.len:Int)] 183)):=hb.trans (hb3.mono (by omega))
  exact ((Tn.of G hb4).grown hg (fun k e=>Or.inr (h3 k e).1)).set_ (p:=⟨N,0,none⟩) (Or.inr h4.1) _)
 have hne:N≠w.heap.size:=by omega
 have HW:=Lib.hid hW
 have HBS:=Lib.hid hbase
 clear h1 h2 h3 h4 h5 hN hb hsz p1 pb hO hp hW hbase
 rcases List.eq_nil_or_concat out with e | ⟨i,a,e⟩
 ·subst e
  rw [Tp.lay_nil]
  simp only [List.length_nil] at q0
  rw [aggP_eq]
  go_enter Tryz.func249,Tryz.ntmps249
  go_wp2_with fail
  rw [← HW.out]
  clear q0
  refine Rg.wp_region_inv (fun w'=>Below W.heap.size W w') (Rg.Wd.at [.is (.int .i64 (-1)),.is (.bool false),.is (.bool false),.any,.any,.any,.any,.any,.any,.is (.bool false)]) (by kernel_rfl) (by kernel_rfl) (Rg.Wd.stays _ _) ((Below.refl _ _).drew) ⟨?_,?_,?_,?_,?_,?_,?_,?_,?_,?_,trivial⟩ ?_
  ·intro a w1 hS hb hd
   have e3:=hb 3 (Rg.nw (by decide))
   simp [Act.eval] at e3
   exact Rg.does_pure (Rg.wanted_none rfl) (by simp [execOp,e3,go_sem]) hS rfl
  ·intro a w1 hS hb hd
   have e7:=hd ⟨0,.data⟩ (by simp) rfl _ _ rfl rfl
   have e7:a.tmps[7]?.getD undef=(.int .i64 (-1)):=Rg.slot e7
   exact Rg.does_pure (Rg.wanted_none rfl) (by simp [execOp,e7,go_sem]) hS rfl
  ·intro a w1 hS hb hd
   have e8:=hd ⟨1,.data⟩ (by simp) rfl _ _ rfl rfl
   have e8:a.tmps[8]?.getD undef=(.bool false):=Rg.slot e8
   exact Rg.does_pure (Rg.wanted_none rfl) (by simp [execOp,e8,go_sem]) hS rfl
  ·intro a w1 hS hb hd
   have e9:=hd ⟨2,.guard⟩ (by simp) rfl _ _ rfl rfl
   exact Or.inr ⟨Rg.unwanted rfl rfl rfl e9,trivial⟩
  ·intro a w1 hS hb hd
   have e9:=hd ⟨2,.guard⟩ (by simp) rfl _ _ rfl rfl
   exact Or.inr ⟨Rg.unwanted rfl rfl rfl e9,trivial⟩
  ·intro a w1 hS hb hd
   have e9:=hd ⟨2,.guard⟩ (by simp) rfl _ _ rfl rfl
   exact Or.inr ⟨Rg.unwanted rfl rfl rfl e9,trivial⟩
  ·intro a w1 hS hb hd
   have e9:=hd ⟨2,.guard⟩ (by simp) rfl _ _ rfl rfl
   exact Or.inr ⟨Rg.unwanted rfl rfl rfl e9,trivial⟩
  ·intro a w1 hS hb hd
   have e9:=hd ⟨2,.guard⟩ (by simp) rfl _ _ rfl rfl
   exact Or.inr ⟨Rg.unwanted rfl rfl rfl e9,trivial⟩
  ·intro a w1 hS hb hd
   have e9:=hd ⟨2,.guard⟩ (by simp) rfl _ _ rfl rfl
   exact Or.inr ⟨Rg.unwanted rfl rfl rfl e9,trivial⟩
  ·intro a w1 hS hb hd
   have e9:=hd ⟨2,.data⟩ (by simp) rfl _ _ rfl rfl
   have e9:a.tmps[9]?.getD undef=(.bool false):=Rg.slot e9
   exact Rg.does_pure (Rg.wanted_none rfl) (by simp [execOp,e9,go_sem]) hS rfl
  intro v w2 hS hF
  have h9:v 9=.bool false:=hF 9 _ _ rfl rfl
  simp only [Rg.putAll,h9]
  simp only [Act.put,List.setIfInBounds_toArray,List.set_cons_succ,List.set_cons_zero]
  have q2:w2.cell? ⟨N,0,none⟩=some (.slice A 0 c):=cell0 (below_old hS HK.out.1 (lt_of_block HK.out.1))
  have pb2:=below_old hS HPB.out (lt_of_block HPB.out)
  have c0:=cell0 pb2
  have c1:=cell1 pb2
  have c2':=cell2 pb2
  have HS:=Lib.hid hS
  have hO:=Lib.hid (show OwnR encP 3 183 (w2.alloc (.cells #[.bool p.s,.int .i64 (p.at_:Int),.int .i64 (p.len:Int)] 183)) base (.slice A 0 c) [] from OwnR.alloc (OwnR.then_ HK.out.2.1 hS) _)
  have hR:=Lib.hid (oneP_row w2 p)
  have HZ:=Lib.hid (show base≤(w2.alloc (.cells #[.bool p.s,.int .i64 (p.at_:Int),.int .i64 (p.len:Int)] 183)).heap.size by
   have h1:=hS.size;have h2:=HK.out;have h3:=HBS.out;simp;omega)
  clear hS hF h9 pb2 b0 b1 b2 hout hne
  go_wp2_with (at_builtin;refine wpList_append_rws encP_len encP_one Tryz.underlying179 infoPc (by decide) (by decide) (w2.alloc (.cells #[.bool p.s,.int .i64 (p.at_:Int),.int .i64 (p.len:Int)] 183)) rfl (.tmp 27) (.tmp 29) rfl base A 0 c [] (by rfl) hO.out _ (some ⟨w2.heap.size,0,none⟩) 1 1 [p] (by rfl) hR.out (by simp [maxLen]) (by omega) HZ.out ?_)
  intro A2 cc2 w3 hV hg hat
  obtain ⟨h1,h2⟩:=HAP.out w2 HS.out A2 cc2 w3 (by simpa using hV) hg (by simpa using hat)
  have H12:=Lib.hid (And.intro h1 h2)
  have p3:w3.heap[N]?=some (.cells #[.slice A 0 c] 179 (0,0)) :=
   (hg.block N (by have:=HS.out.size;have:=lt_of_block HK.out.1;simp;omega) (fun e=>(HK.out.2.2.1 N e.symm).2 rfl)).trans ((Below.heap_alloc _ _ _ (by have:=HS.out.size;have:=lt_of_block HK.out.1;omega)).trans (below_old HS.out HK.out.1 (lt_of_block HK.out.1)))
  have q3:=cell0 p3
  have f3:=frozen_of_row w3 N 0 _ _ p3
  clear h1 h2 hV hg hat p3 q2 c0 c1 c2'
  go_wp2_with fail
  refine ⟨rfl,_,results_none (by kernel_rfl) _ _ _,rfl,?_⟩
  exact H12.out
 ·obtain ⟨k,hk⟩ : ∃ k,out.length=k + 1:=⟨i.length,by rw [e];simp⟩
  clear e i a
  obtain ⟨g,hA,hg0,hgW⟩:=OwnR.pos_ HK.out.2.1 (by omega)
  subst hA
  have hgN:g≠N:=(HK.out.2.2.1 g rfl).2
  obtain ⟨a,ha⟩ : ∃ a,a=out.getD k default:=⟨_,rfl⟩
  obtain ⟨x0,x1,x2,hfz⟩:=OwnP.cells HK.out.2.1 (i:=k) (by omega)
  rw [← ha] at x0 x1 x2
  have HLY:=Lib.hid (And.intro (lay_yes (p:=p) hk) (lay_no (p:=p) hk))
  rw [← ha] at HLY
  have HA:=Lib.hid (show a.at_ + a.len≤1073741824 from HK.out.2.2.2.2.1 a (by
   rw [ha,List.getD_eq_getElem?_getD,List.getElem?_eq_getElem (by omega)];exact List.getElem_mem _))
  have HAE:=Lib.hid (show out[k]?=some a by rw [ha,List.getD_eq_getElem?_getD,List.getElem?_eq_getElem (by omega)];rfl)
  rw [hk] at q0
  obtain ⟨d,hd⟩ : ∃ d,d=decide (Tp.Fol a p):=⟨_,rfl⟩
  have HD:=Lib.hid hd
  have HF:=fun w1:World=>Lib.hid (follows_any a p w1 HA.out)
  rw [← hd] at HF
  have QN:∀ w1,Below W.heap.size W w1→w1.cell? ⟨N,0,none⟩=some (.slice (some ⟨g,0,none⟩) (k + 1) c):=fun w1 hb=>by rw [← hk];exact cell0 (below_old hb HK.out.1 (lt_of_block HK.out.1))
  have QA0:∀ w1,Below W.heap.size W w1→w1.cell? ⟨g,k * 3,none⟩=some (.bool a.s):=fun w1 hb=>(hb.cell (p:=⟨g,_,none⟩) hgW).trans x0
  have QA1:∀ w1,Below W.heap.size W w1→w1.cell? ⟨g,k * 3 + 1,none⟩=some (.int .i64 (a.at_:Int)):=fun w1 hb=>(hb.cell (p:=⟨g,_,none⟩) hgW).trans x1
  have QA2:∀ w1,Below W.heap.size W w1→w1.cell? ⟨g,k * 3 + 2,none⟩=some (.int .i64 (a.len:Int)):=fun w1 hb=>(hb.cell (p:=⟨g,_,none⟩) hgW).trans x2
  have QFZ:∀ w1,Below W.heap.size W w1→∀ j,w1.frozen? ⟨g,j,none⟩=false:=fun w1 hb j=>(hb.frozen (p:=⟨g,_,none⟩) hgW).trans (hfz j)
  have QB0:∀ w1,Below W.heap.size W w1→w1.cell? ⟨w.heap.size,0,none⟩=some (.bool p.s):=fun w1 hb=>cell0 (below_old hb HPB.out (lt_of_block HPB.out))
  have QB1:∀ w1,Below W.heap.size W w1→w1.cell? ⟨w.heap.size,1,none⟩=some (.int .i64 (p.at_:Int)):=fun w1 hb=>cell1 (below_old hb HPB.out (lt_of_block HPB.out))
  have QB2:∀ w1,Below W.heap.size W w1→w1.cell? ⟨w.heap.size,2,none⟩=some (.int .i64 (p.len:Int)):=fun w1 hb=>cell2 (below_old hb HPB.out (lt_of_block HPB.out))
  have HQ:=Lib.hid (And.intro HF (And.intro QN (And.intro QA0 (And.intro QA1 (And.intro QA2 (And.intro QFZ (And.intro QB0 (And.intro QB1 QB2))))))))
  have hk62:k≤8589934592:=by omega
  clear HF QN QA0 QA1 QA2 QFZ QB0 QB1 QB2 x0 x1 x2 hfz hd b0 b1 b2 ha
  rw [aggP_eq]
  go_enter Tryz.func249,Tryz.ntmps249
  go_wp2_with fail
  rw [← HW.out]
  obtain ⟨HF,QN,QA0,QA1,QA2,QFZ,QB0,QB1,QB2⟩:=HQ.out
  obtain ⟨s,x,l⟩:=a
  simp only at HF QA0 QA1 QA2
  rw [aggP_eq,aggP_eq] at HF
  simp only at HF
  clear q0
  have QK:¬ ((k:Int) + 1≤(k:Int)):=by omega
  refine Rg.wp_region_inv (fun w'=>Below W.heap.size W w') (Rg.Wd.at [.is (.int .i64 (k:Int)),.is (.bool true),.is (.bool true),.is (.slice (some ⟨g,0,none⟩) (k + 1) c),.is (.int .i64 (k:Int)),.is (.pointer (some ⟨g,k * 3,none⟩)),.is (.agg #[.bool s,.int .i64 (x:Int),.int .i64 (l:Int)]),.is (.agg #[.bool p.s,.int .i64 (p.at_:Int),.int .i64 (p.len:Int)]),.is (.bool d),.is (.bool d)]) (by kernel_rfl) (by kernel_rfl) (Rg.Wd.stays _ _) ((Below.refl _ _).drew) ⟨?_,?_,?_,?_,?_,?_,?_,?_,?_,?_,trivial⟩ ?_
  ·intro a w1 hS hb hd
   have e3:=hb 3 (Rg.nw (by decide))
   simp [Act.eval] at e3
   exact Rg.does_pure (Rg.wanted_none rfl) (by simp [execOp,e3,go_sem]) hS rfl
  ·intro a w1 hS hb hd
   have e7:=hd ⟨0,.data⟩ (by simp) rfl _ _ rfl rfl
   have e7:a.tmps[7]?.getD undef=(.int .i64 (k:Int)):=Rg.slot e7
   exact Rg.does_pure (Rg.wanted_none rfl) (by simp [execOp,e7,go_sem]) hS rfl
  ·intro a w1 hS hb hd
   have e8:=hd ⟨1,.data⟩ (by simp) rfl _ _ rfl rfl
   have e8:a.tmps[8]?.getD undef=(.bool true):=Rg.slot e8
   exact Rg.does_pure (Rg.wanted_none rfl) (by simp [execOp,e8,go_sem]) hS rfl
  ·intro a w1 hS hb hd
   have e1:=hb 1 (Rg.nw (by decide))
   simp [Act.eval] at e1
   have e9:=hd ⟨2,.guard⟩ (by simp) rfl _ _ rfl rfl
   exact Rg.does_pure (Rg.wanted_some rfl rfl rfl e9) (by simp [execOp,e1,QN w1 hS,go_sem]) hS rfl
  ·intro a w1 hS hb hd
   have e3:=hb 3 (Rg.nw (by decide))
   simp [Act.eval] at e3
   have e9:=hd ⟨2,.guard⟩ (by simp) rfl _ _ rfl rfl
   exact Rg.does_pure (Rg.wanted_some rfl rfl rfl e9) (by simp [execOp,e3,go_sem]) hS rfl
  ·intro a w1 hS hb hd
   have e10:=hd ⟨3,.data⟩ (by simp) rfl _ _ rfl rfl
   have e10:a.tmps[10]?.getD undef=(.slice (some ⟨g,0,none⟩) (k + 1) c):=Rg.slot e10
   have e11:=hd ⟨4,.data⟩ (by simp) rfl _ _ rfl rfl
   have e11:a.tmps[11]?.getD undef=(.int .i64 (k:Int)):=Rg.slot e11
   have e9:=hd ⟨2,.guard⟩ (by simp) rfl _ _ rfl rfl
   exact Rg.does_pure (Rg.wanted_some rfl rfl rfl e9) (by simp [execOp,e10,e11,QK,go_sem]) hS rfl
  ·intro a w1 hS hb hd
   have e12:=hd ⟨5,.data⟩ (by simp) rfl _ _ rfl rfl
   have e12:a.tmps[12]?.getD undef=(.pointer (some ⟨g,k * 3,none⟩)):=Rg.slot e12
   have e9:=hd ⟨2,.guard⟩ (by simp) rfl _ _ rfl rfl
   exact Rg.does_pure (Rg.wanted_some rfl rfl rfl e9) (by simp [execOp,e12,QA0 w1 hS,QA1 w1 hS,QA2 w1 hS,go_sem]) hS rfl
  ·intro a w1 hS hb hd
   have e2:=hb 2 (Rg.nw (by decide))
   simp [Act.eval] at e2
   have e9:=hd ⟨2,.guard⟩ (by simp) rfl _ _ rfl rfl
   exact Rg.does_pure (Rg.wanted_some rfl rfl rfl e9) (by simp [execOp,e2,QB0 w1 hS,QB1 w1 hS,QB2 w1 hS,go_sem]) hS rfl
  ·intro a w1 hS hb hd
   have e13:=hd ⟨6,.data⟩ (by simp) rfl _ _ rfl rfl
   have e13:a.tmps[13]?.getD undef=(.agg #[.bool s,.int .i64 (x:Int),.int .i64 (l:Int)]):=Rg.slot e13
   have e14:=hd ⟨7,.data⟩ (by simp) rfl _ _ rfl rfl
   have e14:a.tmps[14]?.getD undef=(.agg #[.bool p.s,.int .i64 (p.at_:Int),.int .i64 (p.len:Int)]):=Rg.slot e14
   have e9:=hd ⟨2,.guard⟩ (by simp) rfl _ _ rfl rfl
   refine Rg.does_call (f:=250) (args:=#[.agg #[.bool s,.int .i64 (x:Int),.int .i64 (l:Int)],.agg #[.bool p.s,.int .i64 (p.at_:Int),.int .i64 (p.len:Int)]]) (Rg.wanted_some rfl rfl rfl e9) (by simp [e13,e14,go_sem]) ?_
   exact (HF w1).out.mono fun e w' ⟨h1,h2⟩=>⟨_,h1,rfl,below_then hS h2,h2⟩
  ·intro a w1 hS hb hd
   have e9:=hd ⟨2,.data⟩ (by simp) rfl _ _ rfl rfl
   have e9:a.tmps[9]?.getD undef=(.bool true):=Rg.slot e9
   have e15:=hd ⟨8,.data⟩ (by simp) rfl _ _ rfl rfl
   have e15:a.tmps[15]?.getD undef=(.bool d):=Rg.slot e15
   exact Rg.does_pure (Rg.wanted_none rfl) (by simp [execOp,e9,e15,go_sem]) hS rfl
  intro v w2 hS hF
  have h9:v 9=.bool d:=hF 9 _ _ rfl rfl
  simp only [Rg.putAll,h9]
  simp only [Act.put,List.setIfInBounds_toArray,List.set_cons_succ,List.set_cons_zero]
  have q2:=QN w2 hS
  have c0:=QB0 w2 hS
  have c1:=QB1 w2 hS
  have c2':=QB2 w2 hS
  have a2:=QA2 w2 hS
  have f2:=QFZ w2 hS (k * 3 + 2)
  have HS:=Lib.hid hS
  clear HF QN QA0 QA1 QA2 QFZ QB0 QB1 QB2 hF h9 QK hS
  cases d with
  | true =>
   have hFol:Tp.Fol ⟨s,x,l⟩ p:=of_decide_eq_true HD.out.symm
   have HFol:=Lib.hid hFol
   have hl:l + p.len≤1073741824:=by have h1:=hFol.2;have h2:=HK.out.2.2.2.2.2.2.2.2.1;simp only at h1;omega
   clear hFol
   have z0:(0:Int)≤(k:Int):=by omega
   have z1:(k:Int)<(k:Int) + 1:=by omega
   have zw:IntKind.i64.wrap ((l:Int) + (p.len:Int))=(l:Int) + (p.len:Int):=by simp [IntKind.wrap,IntKind.bits,IntKind.signed];omega
   go_wp2_with fail
   go_region
   refine ⟨rfl,_,results_none (by kernel_rfl) _ _ _,rfl,?_⟩
   obtain ⟨p1,hO,h3,h4,h5,hb,hsz,hN,hp,hout⟩:=HK.out
   have hO2:=OwnR.then_ hO HS.out
   have hst:=OwnR.set_ encP_len hO2 k 2 (.int .i64 ((l:Int) + (p.len:Int))) (by decide) ⟨s,x,l⟩ ⟨s,x,l + p.len⟩ HAE.out (by simp [encP])
   have hb2:Below w.heap.size w w2:=hb.trans (HS.out.mono (by omega))
   have hzz:((w2.setCell ⟨g,k * 3 + 2,none⟩ (.int .i64 ((l:Int) + (p.len:Int)))).drew).heap.size=w2.heap.size:=by simp [World.setCell,World.drew]
   rw [HLY.out.1 HFol.out]
   refine ⟨⟨some ⟨g,0,none⟩,c,?_,?_,?_,⟨Or.inl h4.1,fun b hG=>?_⟩,fun y hy=>?_⟩,((Tn.of G hb2).set_ (p:=⟨g,k * 3 + 2,none⟩) (Or.inr (h3 g rfl).1) _).drew⟩
   ·rw [List.length_set]
    exact (blk_keep (a:=⟨g,k * 3 + 2,none⟩) _ (fun e=>hgN e.symm)).trans (below_old HS.out p1 (lt_of_block p1))
   ·rw [List.length_set];exact hst.1
   ·rw [List.length_set];exact fun g' e=>⟨Or.inl (h3 g' e).1,(h3 g' e).2⟩
   ·have:=hb2.size
    rcases hG with hG | hG
    ·have:=h4.2 b hG
     rw [hzz];omega
    ·omega
   ·rcases List.mem_or_eq_of_mem_set hy with hy | rfl
    ·exact h5 y hy
    ·have h1:=HFol.out.2
     simp only at h1 ⊢
     omega
  | false =>
   have hFol:¬ Tp.Fol ⟨s,x,l⟩ p:=of_decide_eq_false HD.out.symm
   have HFol:=Lib.hid hFol
   clear hFol a2 f2
   have hO:=Lib.hid (show OwnR encP 3 183 (w2.alloc (.cells #[.bool p.s,.int .i64 (p.at_:Int),.int .i64 (p.len:Int)] 183)) base (.slice (some ⟨g,0,none⟩) (k + 1) c) out from OwnR.alloc (OwnR.then_ (by have:=HK.out.2.1;rwa [hk] at this) HS.out) _)
   have hR:=Lib.hid (oneP_row w2 p)
   have HZ:=Lib.hid (show base≤(w2.alloc (.cells #[.bool p.s,.int .i64 (p.at_:Int),.int .i64 (p.len:Int)] 183)).heap.size by
    have h1:=HS.out.size;have h2:=HK.out;have h3:=HBS.out;simp;omega)
   have HKK:=Lib.hid hk
   clear hout hne hk
   go_wp2_with (at_builtin;refine wpList_append_rws encP_len encP_one Tryz.underlying179 infoPc (by decide) (by decide) (w2.alloc (.cells #[.bool p.s,.int .i64 (p.at_:Int),.int .i64 (p.len:Int)] 183)) rfl (.tmp 27) (.tmp 29) rfl base (some ⟨g,0,none⟩) (k + 1) c out (by rfl) hO.out _ (some ⟨w2.heap.size,0,none⟩) 1 1 [p] (by rfl) hR.out (by unfold maxLen;omega) (by omega) HZ.out ?_)
   intro A2 cc2 w3 hV hg hat
   have hKO:=HK.out
   rw [HKK.out] at hKO
   have hAP:=HAP.out
   rw [HKK.out] at hAP
   obtain ⟨h1,h2⟩:=hAP w2 HS.out A2 cc2 w3 hV hg (by simpa using hat)
   rw [← (HLY.out.2 HFol.out)] at h1
   have H12:=Lib.hid (And.intro h1 h2)
   have p3:w3.heap[N]?=some (.cells #[.slice (some ⟨g,0,none⟩) (k + 1) c] 179 (0,0)) :=
    (hg.block N (by have:=HS.out.size;have:=lt_of_block hKO.1;simp;omega) (fun e=>(hKO.2.2.1 N e.symm).2 rfl)).trans ((Below.heap_alloc _ _ _ (by have:=HS.out.size;have:=lt_of_block hKO.1;omega)).trans (below_old HS.out hKO.1 (lt_of_block hKO.1)))
   have q3:=cell0 p3
   have f3:=frozen_of_row w3 N 0 _ _ p3
   clear h1 h2 hV hg hat p3 q2 c0 c1 c2' hKO hAP
   go_wp2_with fail
   refine ⟨rfl,_,results_none (by kernel_rfl) _ _ _,rfl,?_⟩
   exact H12.out
end Go.Proofs.YtlgdcelgkiipaaaGreat.Tbl
