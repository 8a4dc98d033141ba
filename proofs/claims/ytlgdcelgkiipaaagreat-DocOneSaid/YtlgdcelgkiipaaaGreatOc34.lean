/-
  A document's answer in memory; what a call leaves; the small calls (none, Rev, From, Text), and what all calls have in common (touched). Conditions: those that each states.
  What all calls of a document that tell an answer have in common (touched): who is gone goes, with his mark; the call's own part is any closure whose contract is known. Conditions: those that it states.
-/
import Derived.Test.YtlgdcelgkiipaaaGreatOc33
set_option maxRecDepth 100000
set_option linter.unusedVariables false
namespace Go.Proofs.YtlgdcelgkiipaaaGreat
open Go.RowKit
open Pl (Un)
def encSe (s:Int × Int × Int):List Value:=[.int .u32 s.1,.int .i64 s.2.1,.int .u64 s.2.2]
theorem encSe_len (s:Int × Int × Int):(encSe s).length=3:=rfl
def aval (e rev:Int) (b:Bool) (A:Option Addr) (n c:Nat) (A2:Option Addr) (n2 c2:Nat) (A3:Option Addr) (n3 c3:Nat):Value:=.agg #[.int .i64 e,.int .u32 0,.int .u64 rev,.bool b,.slice A n c,.slice A2 n2 c2,.slice A3 n3 c3]
structure AnR (w:World) (F:Nat→Prop) (A:Option Addr) (n c:Nat) (A2:Option Addr) (n2 c2:Nat) (A3:Option Addr) (n3 c3:Nat) (a:Pl.An):Prop where
 text:Crs w w.heap.size A n c a.text∧In F A n
 ops:∃ L,OpsF w F A2 n2 c2 L∧L.map OpV.op=a.ops
 seats:Rws encSe w w.heap.size A3 n3 c3 a.seats∧In F A3 n3
def AnV (w:World) (F:Nat→Prop) (v:Value) (a:Pl.An):Prop:=∃ A n c A2 n2 c2 A3 n3 c3,v=aval a.e (a.rev:Int) a.whole A n c A2 n2 c2 A3 n3 c3∧AnR w F A n c A2 n2 c2 A3 n3 c3 a
def AnAt (w:World) (p:Nat) (e rev:Int) (b:Bool) (A:Option Addr) (n c:Nat) (A2:Option Addr) (n2 c2:Nat) (A3:Option Addr) (n3 c3:Nat):Prop:=w.heap[p]?=some (.cells #[.int .i64 e,.int .u32 0,.int .u64 rev,.bool b,.slice A n c,.slice A2 n2 c2,.slice A3 n3 c3] 37 (0,0))
def AnB (w:World) (al:Nat) (F:Nat→Prop) (a:Pl.An):Prop:=∃ A n c A2 n2 c2 A3 n3 c3,AnAt w al 0 0 a.whole A n c A2 n2 c2 A3 n3 c3∧AnR w F A n c A2 n2 c2 A3 n3 c3 a
section
variable {w w':World} {p:Nat} {e rev:Int} {b:Bool} {A:Option Addr} {n c:Nat} {A2:Option Addr} {n2 c2:Nat} {A3:Option Addr} {n3 c3:Nat}
theorem AnAt.cells (h:AnAt w p e rev b A n c A2 n2 c2 A3 n3 c3):w.cell? ⟨p,0,none⟩=some (.int .i64 e)∧w.cell? ⟨p,1,none⟩=some (.int .u32 0)∧w.cell? ⟨p,2,none⟩=some (.int .u64 rev)∧w.cell? ⟨p,3,none⟩=some (.bool b)∧w.cell? ⟨p,4,none⟩=some (.slice A n c)∧w.cell? ⟨p,5,none⟩=some (.slice A2 n2 c2)∧w.cell? ⟨p,6,none⟩=some (.slice A3 n3 c3):=by
 unfold AnAt at h
 refine ⟨?_,?_,?_,?_,?_,?_,?_⟩ <;> (rw [cell_of_row w p _ _ _ _ h];rfl)
theorem AnAt.lt (h:AnAt w p e rev b A n c A2 n2 c2 A3 n3 c3):p<w.heap.size:=lt_of_block h
theorem AnAt.frozen (h:AnAt w p e rev b A n c A2 n2 c2 A3 n3 c3) (j:Nat):w.frozen? ⟨p,j,none⟩=false:=frozen_of_row w p j _ _ h
theorem AnAt.tn {T:Nat→Prop} (h:AnAt w p e rev b A n c A2 n2 c2 A3 n3 c3) (ht:Tn T w w') (hT:¬ T p):AnAt w' p e rev b A n c A2 n2 c2 A3 n3 c3:=ht.old h hT
theorem AnAt.then_ (h:AnAt w p e rev b A n c A2 n2 c2 A3 n3 c3) (hb:Below w.heap.size w w'):AnAt w' p e rev b A n c A2 n2 c2 A3 n3 c3:=below_old hb h h.lt
def seven (w:World) (p:Nat) (v0 v1 v2 v3 v4 v5 v6:Value):World:=((((((w.setCell ⟨p,0,none⟩ v0).setCell ⟨p,1,none⟩ v1).setCell ⟨p,2,none⟩ v2).setCell ⟨p,3,none⟩ v3).setCell ⟨p,4,none⟩ v4).setCell ⟨p,5,none⟩ v5).setCell ⟨p,6,none⟩ v6
theorem tn_seven (w:World) (p:Nat) (v0 v1 v2 v3 v4 v5 v6:Value):Tn (fun b=>b=p) w (seven w p v0 v1 v2 v3 v4 v5 v6):=by
 have h0:=(Tn.refl (fun b=>b=p) w).set_ (p:=⟨p,0,none⟩) (Or.inr rfl) v0
 have h1:=h0.set_ (p:=⟨p,1,none⟩) (Or.inr rfl) v1
 have h2:=h1.set_ (p:=⟨p,2,none⟩) (Or.inr rfl) v2
 have h3:=h2.set_ (p:=⟨p,3,none⟩) (Or.inr rfl) v3
 have h4:=h3.set_ (p:=⟨p,4,none⟩) (Or.inr rfl) v4
 have h5:=h4.set_ (p:=⟨p,5,none⟩) (Or.inr rfl) v5
 exact h5.set_ (p:=⟨p,6,none⟩) (Or.inr rfl) v6
theorem AnAt.sets (h:AnAt w p e rev b A n c A2 n2 c2 A3 n3 c3) (e' rev':Int) (b':Bool) (A':Option Addr) (n' c':Nat) (A2':Option Addr) (n2' c2':Nat) (A3':Option Addr) (n3' c3':Nat) :
  AnAt (seven w p (.int .i64 e') (.int .u32 0) (.int .u64 rev') (.bool b') (.slice A' n' c') (.slice A2' n2' c2') (.slice A3' n3' c3')) p e' rev' b' A' n' c' A2' n2' c2' A3' n3' c3' :=
 by
 have h0:=blk_set (i:=0) h (.int .i64 e')
 have h1:=blk_set (i:=1) h0 (.int .u32 0)
 have h2:=blk_set (i:=2) h1 (.int .u64 rev')
 have h3:=blk_set (i:=3) h2 (.bool b')
 have h4:=blk_set (i:=4) h3 (.slice A' n' c')
 have h5:=blk_set (i:=5) h4 (.slice A2' n2' c2')
 have h6:=blk_set (i:=6) h5 (.slice A3' n3' c3')
 clear h h0 h1 h2 h3 h4 h5
 simp only [List.setIfInBounds_toArray,List.set_cons_succ,List.set_cons_zero] at h6
 exact h6
theorem results_an {fn:Func} {t:Tmp} {tmps:Array Value} {Z:World} (h:fn.results=#[.cell t 37]) (ha:tmps.getD t undef=.pointer (some ⟨p,0,none⟩)) (hZ:AnAt Z p e rev b A n c A2 n2 c2 A3 n3 c3) :
  (results fn tmps).run Tryz.prog Z=.ok (aval e rev b A n c A2 n2 c2 A3 n3 c3) Z:=by
 obtain ⟨c0,c1,c2,c3,c4,c5,c6⟩:=hZ.cells
 have ha':tmps[t]?.getD undef=.pointer (some ⟨p,0,none⟩):=by simpa using ha
 simp [results,h,ha',go_sem,c0,c1,c2,c3,c4,c5,c6,aval]
end
section
variable {w w':World} {F G T:Nat→Prop} {A:Option Addr} {n c:Nat} {A2:Option Addr} {n2 c2:Nat} {A3:Option Addr} {n3 c3:Nat} {a:Pl.An} {v:Value} {al:Nat}
theorem AnR.tn (h:AnR w F A n c A2 n2 c2 A3 n3 c3 a) (ht:Tn T w w') (hd:∀ b,F b→¬ T b):AnR w' F A n c A2 n2 c2 A3 n3 c3 a:=by
 obtain ⟨L,h2,h3⟩:=h.ops
 refine ⟨⟨?_,h.text.2⟩,⟨L,h2.tn ht hd,h3⟩,⟨Rws.tn h.seats.1 ht (h.seats.2.apart hd),h.seats.2⟩⟩
 have h1:=h.text.1
 exact ⟨h1.1,h1.2.1,h1.2.2.1,h1.2.2.2.1,h1.2.2.2.2.1,fun hn=>by
  obtain ⟨g,o,e,hg,hc⟩:=h1.2.2.2.2.2 hn
  exact ⟨g,o,e,Nat.lt_of_lt_of_le hg ht.size,fun i hi=>(ht.cell (p:=⟨g,o + i,none⟩) hg (hd g (h.text.2 hn ⟨g,o,none⟩ e))).trans (hc i hi)⟩⟩
theorem AnR.more (h:AnR w F A n c A2 n2 c2 A3 n3 c3 a) (hg:∀ b,F b→G b):AnR w G A n c A2 n2 c2 A3 n3 c3 a:=by
 obtain ⟨L,h2,h3⟩:=h.ops
 exact ⟨⟨h.text.1,h.text.2.more hg⟩,⟨L,h2.more hg,h3⟩,⟨h.seats.1,h.seats.2.more hg⟩⟩
theorem AnR.old (h:AnR w F A n c A2 n2 c2 A3 n3 c3 a):AnR w (fun b=>F b∧b<w.heap.size) A n c A2 n2 c2 A3 n3 c3 a:=by
 obtain ⟨L,h2,h3⟩:=h.ops
 refine ⟨⟨h.text.1,fun h0 ad e=>⟨h.text.2 h0 ad e,?_⟩⟩,⟨L,⟨h2.1,fun h0 ad e=>⟨h2.2.1 h0 ad e,Rws.in_ h2.1 h0 ad e⟩,fun o ho=>⟨(h2.2.2 o ho).1,fun h0 ad e=>⟨(h2.2.2 o ho).2 h0 ad e,Rws.in_ (h2.2.2 o ho).1 h0 ad e⟩⟩⟩,h3⟩,⟨h.seats.1,fun h0 ad e=>⟨h.seats.2 h0 ad e,Rws.in_ h.seats.1 h0 ad e⟩⟩⟩
 obtain ⟨g,o,e2,hg,_⟩:=h.text.1.2.2.2.2.2 h0
 rw [e] at e2;cases e2;exact hg
theorem AnR.none_ (w:World) (F:Nat→Prop) (e:Int) (rev:Nat) (b:Bool):AnR w F none 0 0 none 0 0 none 0 0 ⟨e,rev,b,[],[],[]⟩ :=
 ⟨⟨Crs.none_ _ _,fun h=>absurd h (by decide)⟩,⟨[],OpsF.none_ _ _,rfl⟩,⟨Rws.none_ _ _ _,fun h=>absurd h (by decide)⟩⟩
theorem AnV.fails (w:World) (F:Nat→Prop) (e:Int):AnV w F (aval e 0 false none 0 0 none 0 0 none 0 0) (Pl.fails e):=⟨none,0,0,none,0,0,none,0,0,rfl,AnR.none_ _ _ _ _ _⟩
theorem AnV.tn (h:AnV w F v a) (ht:Tn T w w') (hd:∀ b,F b→¬ T b):AnV w' F v a:=by
 obtain ⟨A,n,c,A2,n2,c2,A3,n3,c3,e,h⟩:=h
 exact ⟨A,n,c,A2,n2,c2,A3,n3,c3,e,h.tn ht hd⟩
theorem AnB.tn (h:AnB w al F a) (ht:Tn T w w') (hd:∀ b,F b→¬ T b) (ha:¬ T al):AnB w' al F a:=by
 obtain ⟨A,n,c,A2,n2,c2,A3,n3,c3,e,h⟩:=h
 exact ⟨A,n,c,A2,n2,c2,A3,n3,c3,e.tn ht ha,h.tn ht hd⟩
end
def DocR (w:World) (D pa tx ls mk:Nat) (k:Nat→Nat) (m:Nat) (dd:Pl.Dc × Pl.An) (e:Ending) (w':World):Prop :=
 ∃ k' m' v,e=.returned v∧DocM w' D pa tx ls mk k' dd.1.cs.length dd.1 m'∧m'≤m + 256∧Mv k w k' w'∧AnV w' (fun b=>w.heap.size≤b∧k' b=0) v dd.2
def OwnD (w:World) (D pa tx ls mk al:Nat) (k:Nat→Nat) (m:Nat) (dd:Pl.Dc × Pl.An) (e:Ending) (w':World):Prop :=
 ∃ k' m',e=.returned (.int .i64 dd.2.e)∧DocM w' D pa tx ls mk k' dd.1.cs.length dd.1 m'∧m'≤m + 256∧Tn (fun b=>k b≠0∨b=al) w w'∧(∀ b,b<w.heap.size→k' b=k b)∧(dd.2.e=0→AnB w' al (fun b=>w.heap.size≤b∧k' b=0) dd.2)
section
variable {w w':World} {D pa tx ls mk m:Nat} {k:Nat→Nat} {N:Int} {d:Pl.Dc}
theorem DocM.drew (h:DocM w D pa tx ls mk k N d m):DocM w.drew D pa tx ls mk k N d m:=h.then_ (below_drawn (Below.refl _ _))
set_option maxHeartbeats 400000 in
theorem none_doc (h:DocM w D pa tx ls mk k N d m) :
  Calls Tryz.prog 56 #[.pointer (some ⟨D,0,none⟩)] w fun e w'=>e=.returned (.bool false)∧w'=w:=by
 obtain ⟨c0,c1,c2,c3,c4⟩:=h.cells
 clear h
 go_enter Tryz.func56,Tryz.ntmps56
 go_wp2_with fail
 go_ret
 exact ⟨rfl,rfl⟩
set_option maxHeartbeats 400000 in
theorem rev_doc (h:DocM w D pa tx ls mk k N d m) :
  Calls Tryz.prog 17 #[.pointer (some ⟨D,0,none⟩)] w fun e w'=>e=.returned (.int .u64 (d.now:Int))∧w'=w:=by
 have HN:=Lib.hid (none_doc h)
 obtain ⟨c0,c1,c2,c3,c4⟩:=h.cells
 have HP:=Lib.hid (now_past h.past)
 clear h
 go_enter Tryz.func17,Tryz.ntmps17
 go_wp2_with fail
 refine HN.out.mono ?_
 rintro e w' ⟨rfl,hw⟩
 rw [hw];clear hw w'
 go_wp2_with fail
 refine HP.out.mono ?_
 rintro e w' ⟨rfl,hw⟩
 rw [hw];clear hw w'
 go_wp2_with fail
 go_ret
 exact ⟨rfl,rfl⟩
set_option maxHeartbeats 400000 in
theorem from_doc (h:DocM w D pa tx ls mk k N d m) :
  Calls Tryz.prog 26 #[.pointer (some ⟨D,0,none⟩)] w fun e w'=>e=.returned (.int .u64 (d.fr:Int))∧w'=w:=by
 have HN:=Lib.hid (none_doc h)
 obtain ⟨c0,c1,c2,c3,c4⟩:=h.cells
 have HP:=Lib.hid (from_past h.past)
 clear h
 go_enter Tryz.func26,Tryz.ntmps26
 go_wp2_with fail
 refine HN.out.mono ?_
 rintro e w' ⟨rfl,hw⟩
 rw [hw];clear hw w'
 go_wp2_with fail
 refine HP.out.mono ?_
 rintro e w' ⟨rfl,hw⟩
 rw [hw];clear hw w'
 go_wp2_with fail
 go_ret
 exact ⟨rfl,rfl⟩
set_option maxHeartbeats 400000 in
theorem text_doc (h:DocM w D pa tx ls mk k N d m) :
  Calls Tryz.prog 24 #[.pointer (some ⟨D,0,none⟩)] w (RetC w d.cs):=by
 have HN:=Lib.hid (none_doc h)
 obtain ⟨c0,c1,c2,c3,c4⟩:=h.cells
 obtain ⟨t,h1,h2⟩:=h.tab
 have HP:=Lib.hid (Tbl.text_tb h1)
 rw [h2] at HP
 clear h h1 h2
 go_enter Tryz.func24,Tryz.ntmps24
 go_wp2_with fail
 refine HN.out.mono ?_
 rintro e w' ⟨rfl,hw⟩
 rw [hw];clear hw w'
 go_wp2_with fail
 refine HP.out.mono ?_
 rintro e w' ⟨A,c,rfl,ho,hb⟩
 have HB:=Lib.hid (And.intro ho hb)
 clear ho hb
 go_wp2_with fail
 go_ret
 exact ⟨A,c,rfl,HB.out.1,HB.out.2⟩
end
open Go.RowKit
open Pl (Un)
theorem del_none {M:Pl.Mks} (hr:Pl.Rising M) {c:Int} (h:(Pl.getM M c).isSome=false):Pl.delM M c=M:=by
 unfold Pl.delM
 rw [List.filter_eq_self]
 intro p hp
 have hg:=(Pl.get_iff hr (c:=p.1) (v:=p.2)).2 hp
 by_cases e:p.1=c
 ·rw [← e,hg] at h
  cases h
 ·simpa using e
theorem dropM_all {w:World} {p b:Nat} {N:Int} {M:Pl.Mks} (h:MarksW w p b N M) {c:Int} (hc:0≤c∧c<4294967296) :
  Calls Tryz.prog 113 #[.pointer (some ⟨p,0,none⟩),.int .u32 c] w fun e w'=>(∃ r,e=.returned (.int .i64 r))∧MarksW w' p b N (Pl.delM M c)∧Tn (fun i=>i=b) w w':=by
 cases hg:(Pl.getM M c).isSome with
 | true=>exact (dropM_any h hc hg).mono fun _ _ h=>⟨⟨_,h.1⟩,h.2⟩
 | false=>exact (dropM_no h hc hg).mono fun e w' h2=>⟨⟨_,h2.1⟩,by rw [h2.2,del_none h.ok.up hg];exact ⟨h,Tn.refl _ _⟩⟩
def Hot (k:Nat→Nat) (b:Nat):Prop:=k b=1∨k b=6∨k b=8
section
variable {w w':World} {D pa tx ls mk m:Nat} {k:Nat→Nat} {N:Int} {d:Pl.Dc}
theorem DocM.dropM (h:DocM w D pa tx ls mk k N d m) {c:Int} (hc:0≤c∧c<4294967296) :
  Calls Tryz.prog 113 #[.pointer (some ⟨mk,0,none⟩),.int .u32 c] w fun e w'=>(∃ r,e=.returned (.int .i64 r))∧DocM w' D pa tx ls mk k N { d with M:=Pl.delM d.M c } m∧Mv k w k w'∧Tn (fun b=>k b=8) w w':=by
 obtain ⟨mb,h5,h6⟩:=h.mks
 refine (dropM_all h5 hc).mono fun e w' h2=>?_
 have:=h.setM h6 h2.2.1 h2.2.2
 exact ⟨h2.1,this.1,this.2,h2.2.2.more fun b _ e=>by rw [e];exact h6⟩
theorem DocM.expire (h:DocM w D pa tx ls mk k N d m) (now:Int) (h0:0≤now) :
  Calls Tryz.prog 144 #[.pointer (some ⟨ls,0,none⟩),.int .u64 now] w fun e w'=>∃ A c,e=.returned (.slice A (Pl.whichM false now d.L).length c)∧Ls.OwnCl w' w.heap.size (.slice A (Pl.whichM false now d.L).length c) (Pl.whichM false now d.L)∧DocM w' D pa tx ls mk k N { d with L:=Pl.thereM now d.L } m∧Mv k w k w'∧Tn (Hot k) w w':=by
 obtain ⟨lb,h5,h6⟩:=h.les
 refine (Ls.expire_any h5 now h0).mono fun e w' ⟨A,c,h1,h2,h3,h4⟩=>?_
 have:=h.setL h6 h3 h4
 exact ⟨A,c,h1,h2,this.1,this.2,h4.more fun b _ e=>.inr (.inl (by rw [e];exact h6))⟩
def told (dd:Pl.Dc × Pl.An):Pl.Dc × Pl.An:=(dd.1,if dd.2.e=0 then { dd.2 with rev:=dd.1.now } else dd.2)
def TcI (w w5:World) (D pa tx ls mk:Nat) (k:Nat→Nat) (N:Int) (d:Pl.Dc) (m:Nat) (A:Option Addr) (n c:Nat) (G:List Int) (i:Value) (wr:World):Prop :=
 ∃ j:Nat,i=.int .i64 (j:Int)∧j≤n∧Ls.OwnCl wr w.heap.size (.slice A n c) G∧DocM wr D pa tx ls mk k N { d with M:=Pl.dropsM d.M (G.take j) } m∧Tn (fun b=>k b=8) w5 wr
set_option maxHeartbeats 2000000 in
theorem touched_any (h:DocM w D pa tx ls mk k N d m) (now:Int) (h0:0≤now) (hnow:now≤1099511627776) (ht:d.t + 1<18446744073709551616) (gf:FuncId) (caps:Array Value) (dd:Pl.Dc × Pl.An)
  (hfun:∀ args w,(callFunc gf args).run Tryz.prog w=.ok (.enter gf args) w)
  (hrow:dd.2.e≠0→dd.2=Pl.fails dd.2.e)
  (hf:∀ w1 al,DocM w1 D pa tx ls mk k N (d.touched now) m→Mv k w k w1→w.heap.size≤al→AnAt w1 al 0 0 false none 0 0 none 0 0 none 0 0→Tn (Hot k) w w1 →
   Calls Tryz.prog gf (#[.pointer (some ⟨al,0,none⟩)] ++ caps) w1 (OwnD w1 D pa tx ls mk al k m dd)) :
  Calls Tryz.prog 61 #[.pointer (some ⟨D,0,none⟩),.int .u64 now,.func (.func gf) #[] caps] w (DocR w D pa tx ls mk k m (told dd)):=by
 have HH:=Lib.hid h
 have HF:=Lib.hid hf
 have HR:=Lib.hid hrow
 have z1:decide (now > 1099511627776)=false:=decide_eq_false (by omega)
 have z2:decide (1099511627776<now)=false:=decide_eq_false (by omega)
 clear h hf hrow
 go_enter Tryz.func61,Tryz.ntmps61
 go_wp2_with fail
 have hb1:Below w.heap.size w (w.alloc (.cells #[.int .i64 0,.int .u32 0,.int .u64 0,.bool false,.slice none 0 0,.slice none 0 0,.slice none 0 0] 37)):=below_box _ _
 have HB1:=Lib.hid hb1
 have HA0:=Lib.hid (heap_alloc_new w (.cells #[.int .i64 0,.int .u32 0,.int .u64 0,.bool false,.slice none 0 0,.slice none 0 0,.slice none 0 0] 37))
 have HN:=Lib.hid (none_doc (HH.out.then_ hb1))
 clear hb1
 generalize w.alloc (.cells #[.int .i64 0,.int .u32 0,.int .u64 0,.bool false,.slice none 0 0,.slice none 0 0,.slice none 0 0] 37)=W1 at HB1 HA0 HN ⊢
 refine HN.out.mono ?_
 rintro e w' ⟨rfl,hw⟩
 rw [hw];clear hw w' HN
 obtain ⟨c0,c1,c2,c3,c4⟩:=(HH.out.then_ HB1.out).cells
 have fD:=(HH.out.then_ HB1.out).frozen
 go_wp2_with fail
 have hT:=(HH.out.then_ HB1.out).setT (d.t + 1)
 rw [show ((d.t + 1:Nat):Int)=(d.t:Int) + 1 from by omega] at hT
 have hkal:k w.heap.size=0:=by
  rcases Nat.eq_zero_or_pos (k w.heap.size) with h | h
  ·exact h
  ·have:=HH.out.lt w.heap.size (by omega)
   omega
 have htD:=((Tn.of (Hot k) HB1.out).trans ((Tn.refl (fun b=>b=D) W1).set_ (p:=⟨D,0,none⟩) (Or.inr rfl) (.int .u64 ((d.t:Int) + 1))) fun b _ e=>.inl (by rw [e];exact HH.out.kD))
 have HTD:=Lib.hid htD
 have HT:=Lib.hid (And.intro hT.1 ((Mv.of k HB1.out).trans hT.2))
 have HA1:=Lib.hid (hT.2.old HA0.out hkal)
 have HKA:=Lib.hid hkal
 clear hT htD c0 c1 c2 c3 c4 fD hkal HB1 HA0
 generalize W1.setCell ⟨D,0,none⟩ (.int .u64 ((d.t:Int) + 1))=W2 at HT HTD HA1 ⊢
 clear W1
 refine (HT.out.1.expire now h0).mono ?_
 rintro e w5 ⟨A,c,rfl,ho5,hd5,hm5,hq5⟩
 have hkeys:∀ x ∈ Pl.whichM false now d.L,0≤x∧x<4294967296:=fun x hx=>by
  unfold Pl.whichM at hx
  obtain ⟨q,hq,rfl⟩:=List.mem_map.1 hx
  obtain ⟨lb,hl,_⟩:=HH.out.les
  exact hl.ok.key q (List.mem_filter.1 hq).1
 have hn9:(Pl.whichM false now d.L).length≤1000:=by
  obtain ⟨lb,hl,_⟩:=HH.out.les
  exact Nat.le_trans (Ls.which_len false now d.L) (by have:=hl.few;omega)
 have htd:d.touched now={ d with L:=Pl.thereM now d.L,M:=Pl.dropsM d.M (Pl.whichM false now d.L),t:=d.t + 1 }:=rfl
 rw [htd] at HF
 clear htd
 simp only at ho5
 obtain ⟨G,hG⟩ : ∃ G,G=Pl.whichM false now d.L:=⟨_,rfl⟩
 rw [← hG] at ho5 hkeys HF hn9 ⊢
 obtain ⟨n,hn⟩ : ∃ n,n=G.length:=⟨_,rfl⟩
 rw [← hn] at ho5 hn9 ⊢
 have HN:=Lib.hid hn
 have HK:=Lib.hid hkeys
 have HO5:=Lib.hid (OwnR.lower ho5 HT.out.2.tn.size)
 have HD5:=Lib.hid hd5
 have HM5:=Lib.hid (HT.out.2.trans hm5)
 have HQ5:=Lib.hid (HTD.out.trans hq5 fun _ _ h=>h)
 have HA5:=Lib.hid (hm5.old HA1.out HKA.out)
 clear hn hkeys hG ho5 hd5 hm5 hq5 HA1 HT HTD
 go_wp2_with fail
 go_loopw [33] (fun i wr=>TcI w w5 D pa tx ls mk k N { d with L:=Pl.thereM now d.L,t:=d.t + 1 } m A n c G i wr) (fun i _=>n - (intOf i).toNat)
 case atStart=>exact ⟨0,rfl,Nat.zero_le _,HO5.out,HD5.out,Tn.refl _ _⟩
 case round =>
  obtain ⟨j,rfl,hj,ho,hd,ht⟩:=hrel
  have HO:=Lib.hid ho
  have HDJ:=Lib.hid hd
  have HTJ:=Lib.hid ht
  clear ho hd ht
  by_cases hlt:j<n
  ·have hjG:j<G.length:=by rw [← HN.out];exact hlt
   obtain ⟨y,hy⟩ : ∃ y,y=G[j]:=⟨_,rfl⟩
   have hy1:G[j]?=some y:=by rw [List.getElem?_eq_getElem hjG,hy]
   have hky:=HK.out y (by rw [hy];exact List.getElem_mem hjG)
   obtain ⟨g,o,hA,_,hc⟩:=Rws.at_ Ls.encC_len (OwnR.rws Ls.encC_len HO.out).2 hlt
   have a0:=hc j hlt 0 _ (by decide) rfl
   rw [show G.getD j default=y by rw [List.getD_eq_getElem?_getD,hy1];rfl] at a0
   subst hA
   simp only [Nat.mul_one,Nat.add_zero] at a0
   have z3:(0:Int)≤(j:Int):=Int.natCast_nonneg _
   have z4:(j:Int)<(n:Int):=Int.ofNat_lt.2 hlt
   have HMS:=Lib.hid (show n - (j + 1)<n - j by omega)
   have HG:=Lib.hid (Ls.drops_add (M:=d.M) hy1)
   obtain ⟨c0,c1,c2,c3,c4⟩:=HDJ.out.cells
   have HC:=Lib.hid (HDJ.out.dropM hky)
   clear hc hy hy1 hjG hky
   go_wp2_with fail
   refine HC.out.mono ?_
   rintro e w6 ⟨⟨r,rfl⟩,hd6,hm6,ht6⟩
   have HX:=Lib.hid (And.intro hd6 ht6)
   clear hd6 hm6 ht6
   go_wp2_with fail
   go_roundw
   case rel =>
    refine ⟨j + 1,by go_num,hlt,OwnR.tn HO.out HX.out.2 (fun i hi e=>?_),?_,HTJ.out.trans HX.out.2 (fun _ _ h=>h)⟩
    ·have h1:=(OwnR.lt HO.out i hi).1
     have h2:=HH.out.lt i (by rw [e];decide)
     omega
    ·rw [HG.out];exact HX.out.1
   case measure=>simp [intOf];(have:=HMS.out;omega)
  ·have hjn:j=n:=by omega
   have he:G.take j=G:=by rw [hjn,HN.out,List.take_length]
   rw [he] at HDJ
   have hmj:Mv k w k wr:=HM5.out.trans ⟨HTJ.out.more fun b _ e=>by rw [e];decide,fun _ _=>rfl⟩
   have HMJ:=Lib.hid hmj
   have HAJ:=Lib.hid (HTJ.out.old HA5.out (by rw [HKA.out];decide))
   clear he hmj
   have hDJ2:DocM wr D pa tx ls mk k N { d with L:=Pl.thereM now d.L,M:=Pl.dropsM d.M G,t:=d.t + 1 } m:=HDJ.out
   have hb2:Below wr.heap.size wr (wr.alloc (.cells #[.int .i64 0,.int .u32 0,.int .u64 0,.bool false,.slice none 0 0,.slice none 0 0,.slice none 0 0] 37)):=below_box _ _
   have hC:=HF.out _ wr.heap.size (hDJ2.then_ hb2) (HMJ.out.then_ hb2) HMJ.out.tn.size (heap_alloc_new wr _) ((HQ5.out.trans HTJ.out fun _ _ e=>.inr (.inr e)).trans (Tn.of (fun _=>False) hb2) fun _ _ h=>h.elim)
   have HC:=Lib.hid hC
   have HM2:=Lib.hid (HMJ.out.then_ hb2)
   have HA2:=Lib.hid (below_old hb2 HAJ.out (lt_of_block HAJ.out))
   have hka2:k wr.heap.size=0:=by
    rcases Nat.eq_zero_or_pos (k wr.heap.size) with h | h
    ·exact h
    ·have:=HDJ.out.lt wr.heap.size (by omega)
     omega
   have HKA2:=Lib.hid (And.intro hka2 (And.intro (lt_of_block (heap_alloc_new wr (.cells #[.int .i64 0,.int .u32 0,.int .u64 0,.bool false,.slice none 0 0,.slice none 0 0,.slice none 0 0] 37))) (show w.heap.size<wr.heap.size from lt_of_block HAJ.out)))
   clear hC hb2 hDJ2 HDJ HTJ HO HMJ HAJ HF HQ5 hka2 hn9
   go_wp2_with fail
   generalize wr.alloc (.cells #[.int .i64 0,.int .u32 0,.int .u64 0,.bool false,.slice none 0 0,.slice none 0 0,.slice none 0 0] 37)=W6 at HC HM2 HA2 HKA2 ⊢
   refine HC.out.mono ?_
   rintro e w7 ⟨k7,m7,rfl,hd7,hm7,ht7,hk7,hb7⟩
   have HA7:=Lib.hid (show AnAt w7 w.heap.size 0 0 false none 0 0 none 0 0 none 0 0 from ht7.old HA2.out (by rw [HKA.out];intro h;rcases h with h | h;exact h rfl;have:=HKA2.out.2.2;omega))
   have hm27:Mv k w k7 w7:=⟨HM2.out.tn.trans ht7 fun b hb h=>h.elim id (fun e=>by have:=HKA2.out.2.2;omega),fun b hb=>hk7 b (by have:=HKA2.out.2.2;have:=HKA2.out.2.1;omega)⟩
   have HM7:=Lib.hid hm27
   have HD7:=Lib.hid hd7
   have HB7:=Lib.hid hb7
   have HE7:=Lib.hid hm7
   have hk0:k7 w.heap.size=0:=(hk7 w.heap.size (by have:=HKA2.out.2.2;have:=HKA2.out.2.1;omega)).trans HKA.out
   have hk1:k7 wr.heap.size=0:=(hk7 wr.heap.size HKA2.out.2.1).trans HKA2.out.1
   have HK7:=Lib.hid (And.intro hk0 (And.intro hk1 (And.intro HKA2.out.2.2 HKA2.out.2.1)))
   have HK8:=Lib.hid hk7
   obtain ⟨dq,⟨e7,rev7,wh7,tx7,op7,se7⟩⟩:=dd
   clear hb7 hd7 hm7 hm27 ht7 hk7 HC HM2 HA2 HKA2 HKA hk0 hk1
   simp only at HR HD7 HB7
   obtain ⟨d0,d1,d2,d3,d4,d5,d6⟩:=HA7.out.cells
   have g7:=HA7.out.frozen
   by_cases he:e7=0
   ·subst he
    obtain ⟨A4,n4,c4,A5,n5,c5,A6,n6,c6,hb7,hr7⟩:=HB7.out rfl
    have HAL:=Lib.hid hb7
    have HRO:=Lib.hid hr7
    simp only at HAL HRO
    have HRV:=Lib.hid (rev_doc HD7.out)
    obtain ⟨a0,a1,a2,a3,a4,a5,a6⟩:=hb7.cells
    have g8:=hb7.frozen
    clear hb7 hr7
    simp only at a3
    have hne:w.heap.size≠wr.heap.size:=Nat.ne_of_lt HK7.out.2.2.1
    have hne2:wr.heap.size≠w.heap.size:=Ne.symm hne
    go_wp2_with fail
    refine HRV.out.mono ?_
    rintro e w8 ⟨rfl,hw⟩
    rw [hw];clear hw w8 HRV
    go_wp2_with fail
    have t8:Tn (fun b=>b=wr.heap.size) w7 (w7.setCell ⟨wr.heap.size,2,none⟩ (.int .u64 (dq.now:Int))):=(Tn.refl (fun b=>b=wr.heap.size) w7).set_ (p:=⟨wr.heap.size,2,none⟩) (Or.inr rfl) _
    have h8:=HA7.out.tn t8 hne
    have t9:=tn_seven (w7.setCell ⟨wr.heap.size,2,none⟩ (.int .u64 (dq.now:Int))) w.heap.size (.int .i64 0) (.int .u32 0) (.int .u64 (dq.now:Int)) (.bool wh7) (.slice A4 n4 c4) (.slice A5 n5 c5) (.slice A6 n6 c6)
    have tt:Tn (fun b=>b=wr.heap.size∨b=w.heap.size) w7 _:=(t8.more fun b _ h=>Or.inl h).trans t9 fun b _ h=>Or.inr h
    refine bodyPost_ret (results_an rfl (by rfl) (h8.sets 0 (dq.now:Int) wh7 A4 n4 c4 A5 n5 c5 A6 n6 c6)) rfl ⟨k7,m7,_,rfl,HD7.out.tn tt (fun b hb h=>hb (by rcases h with h | h <;> rw [h];exact HK7.out.2.1;exact HK7.out.1)),HE7.out,⟨HM7.out.tn.trans tt (fun b hb h=>?_),HM7.out.eq⟩,⟨A4,n4,c4,A5,n5,c5,A6,n6,c6,rfl,?_⟩⟩
    ·have h3:=HK7.out.2.2.1
     exact absurd hb (by rcases h with h | h <;> omega)
    ·have hr:=(HRO.out.tn tt (fun b hb h=>by have h1:=HK7.out.2.2.2;have h2:=hb.1;have h3:=HK7.out.2.2.1;rcases h with h | h <;> omega)).more (G:=fun b=>w.heap.size≤b∧k7 b=0) fun b hb=>⟨by have h1:=HK7.out.2.2.2;have h2:=hb.1;have h3:=HK7.out.2.2.1;omega,hb.2⟩
     exact ⟨hr.text,hr.ops,hr.seats⟩
   ·have z5:(e7 != 0)=true:=by simpa using he
    have z6:decide (e7≠0)=true:=decide_eq_true he
    have hE:told (dq,{ e:=e7,rev:=rev7,whole:=wh7,text:=tx7,ops:=op7,seats:=se7 })=(dq,Pl.fails e7):=by
     unfold told
     simp only
     rw [if_neg he,HR he]
    go_wp2_with fail
    have tt:=tn_seven w7 w.heap.size (.int .i64 e7) (.int .u32 0) (.int .u64 0) (.bool false) (.slice none 0 0) (.slice none 0 0) (.slice none 0 0)
    refine bodyPost_ret (results_an rfl (by rfl) (HA7.out.sets e7 0 false none 0 0 none 0 0 none 0 0)) rfl ⟨k7,m7,_,rfl,HD7.out.tn tt (fun b hb h=>hb (by rw [h];exact HK7.out.1)),HE7.out,⟨HM7.out.tn.trans tt (fun b hb h=>?_),HM7.out.eq⟩,by rw [hE];exact AnV.fails _ _ e7⟩
    exact absurd hb (by rw [h];exact Nat.lt_irrefl _)
end
end Go.Proofs.YtlgdcelgkiipaaaGreat
