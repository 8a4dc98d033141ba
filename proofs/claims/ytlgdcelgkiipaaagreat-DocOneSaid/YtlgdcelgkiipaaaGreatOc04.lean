/-
  slices.Insert at a row of code points of the law's own, whatever room there is. Conditions: the row is one; 0 ≤ i ≤ its length; what is put in lies in another block; both together at most a million.
  Contracts of slices.Clone, slices.Equal, slices.Index, the document's Own and Same, at code points and at rows of units. No conditions but those that each states.
  Two units that fit a text, in plain words: both ways make one text, and each fits where it comes. Conditions: those that each states.
-/
import Derived.Test.YtlgdcelgkiipaaaGreatOc03
import Derived.Test.YtlgdcelgkiipaaaGreatOc01
import Derived.Deep.RegionHeld3
import Derived.Lib.SlBytesConst
set_option maxRecDepth 100000
set_option linter.unusedVariables false
namespace Go.Proofs.YtlgdcelgkiipaaaGreat
open Go.RowKit
theorem own_hold {w:World} {g n c:Nat} {cs:List Int} {cur:Array Value} (h:Rowc w g n c cs cur) (i k:Nat) (hi:i≤n):(Builtin.firstCells 1 i (.slice (some ⟨g,0,none⟩) i k)).run Tryz.prog w=.ok (cellsC (cs.take i)).toArray w :=
 run_firstCells_some w 1 i ⟨g,0,none⟩ i k (cellsC (cs.take i)) (by have:=h.2.2.1;rw [len_cellsC,List.length_take];omega) (fun j v hj=>by
  have hj2:j<i:=by have:=(List.getElem?_eq_some_iff.1 hj).1;rw [len_cellsC,List.length_take] at this;omega
  rw [cellsC_at _ j (by have:=h.2.2.1;rw [List.length_take];omega),getD_take cs i j hj2] at hj
  cases hj
  rw [Addr.add_lit,Nat.zero_add]
  exact (cell_of_row w g j _ _ _ h.1).trans (h.2.2.2.2.2.2 j (by omega)))
set_option maxHeartbeats 1000000 in
theorem insC_grow (w:World) (base g n c:Nat) (cs:List Int) (h:OwnC w base (.slice (some ⟨g,0,none⟩) n c) cs) (i:Nat) (hi:i<n) (vg vo m d:Nat) (ds:List Int) (hV:Crs w w.heap.size (some ⟨vg,vo,none⟩) m d ds) (hm:0<m) (hroom:c<n + m) (hfit:n + m≤1000000) :
  Calls Tryz.prog 99 #[.slice (some ⟨g,0,none⟩) n c,.int .i64 (i:Int),.slice (some ⟨vg,vo,none⟩) m d] w (Turned w (.slice (some ⟨g,0,none⟩) n c) base (n + m) (cs.take i ++ ds ++ cs.drop i)):=by
 obtain ⟨hn,hS⟩:=h.crs
 have hle:=hS.le
 obtain ⟨hbg,cur,hR⟩:=OwnC.row h
 have hgw:=lt_of_block hR.1
 have hdl:=hV.len
 have hvc:∀ t,t<m→w.cell? ⟨vg,vo + t,none⟩=some (.int .i32 (ds.getD t 0)):=by
  obtain ⟨g',o',e,_,hc⟩:=hV.at_ (i:=0) hm
  cases e
  exact hc
 have hvw:vg<w.heap.size:=World.block_lt_of_cell? w _ (hvc 0 hm)
 obtain ⟨i0,hi0,hz0,hzs,hzb⟩:=info_parts infoChar
 have s1:=slice_fromC' g n c i (by omega) (by omega)
 have s2:=slice_toC (some ⟨g,0,none⟩) n c i (by omega)
 obtain ⟨H,hH⟩ : ∃ H,H=w.heap.size:=⟨_,rfl⟩
 obtain ⟨G,hG⟩ : ∃ G,G=grownCap w (n + m) c 41:=⟨_,rfl⟩
 have hGn:n + m≤G:=by rw [hG];exact grownCap_ge w _ _ _
 have hGm:G≤maxLen:=by rw [hG];exact grownCap_le_maxLen w _ _ _ (by unfold maxLen;omega)
 have hG63:G≤9223372036854775807:=by unfold maxLen at hGm;omega
 obtain ⟨ROW,hROW⟩ : ∃ ROW:Array Value,ROW=(cellsC (cs.take i)).toArray ++ Builtin.zeroCells (Value.int .i32 0).cells (n + m - i) ++ Builtin.zeroCells (Value.int .i32 0).cells (G - (n + m)):=⟨_,rfl⟩
 have hRl:ROW.size=G:=by
  rw [hROW]
  simp [Builtin.zeroCells,Value.cells,len_cellsC]
  omega
 obtain ⟨W1,hW1⟩ : ∃ W1,W1=w.drew.alloc (.cells ROW 41):=⟨_,rfl⟩
 have hrz:∀ ty,(Builtin.append_ #[33,3] ty #[.slice (some ⟨g,0,none⟩) i c,.int .i64 ((n:Int) + (m:Int) - (i:Int))]).run Tryz.prog w=.ok (.slice (some ⟨H,0,none⟩) (n + m) G) W1:=fun ty=>by
  have hold:=own_hold (w:=w.drew) (Rowc.drew hR) i c (by omega)
  rw [← hzs] at hold
  have:=Lib.run_append_grow_zeros w 33 3 ty 41 i0 _ .i64 .i64 Tryz.underlying33 Tryz.underlying3 hi0 hz0 (some ⟨g,0,none⟩) i c (cellsC (cs.take i)) hold (n + m - i) (by omega) (by omega) (by omega) (by omega) (by rw [hzb];omega) (by rw [hzb,show i + (n + m - i)=n + m by omega];exact growslice_fits hroom (by omega))
  rw [show i + (n + m - i)=n + m by omega] at this
  rw [show (n:Int) + (m:Int) - (i:Int)=((n + m - i:Nat):Int) by omega,hW1,hROW,hG,hH]
  exact this
 have hq1:W1.heap[H]?=some (.cells ROW 41 (0,0)):=by rw [hW1,hH];exact heap_alloc_new w.drew _
 have hR1:Rowc W1 H i G (cs.take i) ROW:=by
  refine ⟨hq1,hRl,by rw [List.length_take];omega,by omega,hGm,fun x hx=>hS.js x (List.mem_of_mem_take hx),fun t ht=>?_⟩
  have hlt:t<(cellsC (cs.take i)).length:=by rw [len_cellsC,List.length_take];omega
  rw [hROW,Array.append_assoc,Array.getElem?_append_left (by simpa using hlt),List.getElem?_toArray]
  exact cellsC_at _ t (by rw [len_cellsC] at hlt;exact hlt)
 have hb1:Below w.heap.size w W1:=by rw [hW1];exact below_alloc (Below.refl _ w).drew _
 have hc1:=copy_run hR1 i (n + m - i) (G - i) ⟨vg,vo,none⟩ m d ds (fun t ht=>by
  rw [Addr.add_lit]
  exact (hb1.cell (p:=⟨vg,vo + t,none⟩) hvw).trans (hvc t (by omega))) (by rw [hdl,Nat.min_def];split <;> omega) (by omega)
 obtain ⟨W2,hW2⟩ : ∃ W2,W2=W1.setCells H i (cellsC ds):=⟨_,rfl⟩
 rw [← hW2] at hc1
 have ht0:Tn (fun b=>b=H) w W1:=(Tn.of _ hb1)
 have ht2:Tn (fun b=>b=H) w W2:=by rw [hW2];exact tn_sets _ w W1 _ ht0
 obtain ⟨Z,hZ⟩ : ∃ Z,Z=cs.take i ++ ds:=⟨_,rfl⟩
 have hZl:Z.length=i + m:=by rw [hZ,List.length_append,List.length_take];omega
 have hZJ:∀ x ∈ Z,Pl.J x:=fun x hx=>by
  rw [hZ] at hx
  exact (List.mem_append.1 hx).elim (fun h=>hS.js x (List.mem_of_mem_take h)) (fun h=>hV.js x h)
 have hZg:∀ t,Z.getD t 0=if t<i then (cs.take i).getD t 0 else ds.getD (t - i) 0:=fun t=>by
  rw [hZ,getD_app,List.length_take,show min i cs.length=i by omega]
 have hR2:Rowc W2 H (i + m) G Z (sets ROW i (cellsC ds)):=by
  rw [hW2]
  refine Rowc.sets_ hR1 i (cellsC ds) (by rw [len_cellsC];omega) (by omega) hZl hZJ (fun t h1 h2 h3=>?_) (fun t h1 h2=>?_)
  ·rw [len_cellsC] at h3
   rw [cellsC_at ds (t - i) (by omega),hZg,if_neg (by omega)]
  ·rw [len_cellsC] at h2
   rw [hZg,if_pos (by omega)]
   exact hR1.2.2.2.2.2.2 t (by omega)
 obtain ⟨X,hX⟩ : ∃ X,X=cs.drop i:=⟨_,rfl⟩
 have hXl:X.length=n - i:=by rw [hX,List.length_drop];omega
 have hXg:∀ t,X.getD t 0=cs.getD (i + t) 0:=fun t=>by rw [hX];exact getD_drop cs i t
 have hc2:=copy_run (w:=W2.drew) (Rowc.drew hR2) (i + m) (n + m - (i + m)) (G - (i + m)) ⟨g,i,none⟩ (n - i) (c - i) X (fun t ht=>by
  rw [Addr.add_lit,hXg]
  exact (ht2.cell (p:=⟨g,i + t,none⟩) hgw (by show ¬ g=H;omega)).trans ((cell_of_row w g (i + t) _ _ _ hR.1).trans (hR.2.2.2.2.2.2 (i + t) (by omega)))) (by rw [hXl,Nat.min_def];split <;> omega) (by omega)
 obtain ⟨W3,hW3⟩ : ∃ W3,W3=W2.drew.setCells H (i + m) (cellsC X):=⟨_,rfl⟩
 rw [← hW3] at hc2
 have ht3:Tn (fun b=>b=H) w W3:=by rw [hW3];exact tn_sets _ w W2.drew _ ht2.drew
 obtain ⟨Y,hY⟩ : ∃ Y,Y=Z ++ X:=⟨_,rfl⟩
 have hYl:Y.length=n + m:=by rw [hY,List.length_append];omega
 have hYJ:∀ x ∈ Y,Pl.J x:=fun x hx=>by
  rw [hY] at hx
  rcases List.mem_append.1 hx with hx | hx
  ·exact hZJ x hx
  ·rw [hX] at hx;exact hS.js x (List.mem_of_mem_drop hx)
 have hYg:∀ t,Y.getD t 0=if t<i + m then Z.getD t 0 else X.getD (t - (i + m)) 0:=fun t=>by rw [hY,getD_app,hZl]
 have hR3:Rowc W3 H (n + m) G Y (sets (sets ROW i (cellsC ds)) (i + m) (cellsC X)):=by
  rw [hW3]
  refine Rowc.sets_ (Rowc.drew hR2) (i + m) (cellsC X) (by rw [len_cellsC];omega) (by omega) hYl hYJ (fun t h1 h2 h3=>?_) (fun t h1 h2=>?_)
  ·rw [len_cellsC] at h3
   rw [cellsC_at X (t - (i + m)) (by omega),hYg,if_neg (by omega)]
  ·rw [len_cellsC] at h2
   rw [hYg,if_pos (by omega)]
   exact hR2.2.2.2.2.2.2 t (by omega)
 have HO:=Lib.hid (show Turned w (.slice (some ⟨g,0,none⟩) n c) base (n + m) Y (.returned (.slice (some ⟨H,0,none⟩) (n + m) G)) W3 from
  ⟨some ⟨H,0,none⟩,G,rfl,Rowc.own hR3 (by omega),ht3.more (fun b hb he=>by omega),fun b hb=>Or.inr (by cases hb;show w.heap.size≤H;omega)⟩)
 rw [← hX,← hZ,← hY]
 obtain ⟨xl,hxl⟩ : ∃ k,k=X.length:=⟨_,rfl⟩
 obtain ⟨dl,hdl2⟩ : ∃ k,k=ds.length:=⟨_,rfl⟩
 rw [← hxl] at hc2
 rw [← hdl2] at hc1
 have HC2:=Lib.hid hc2
 have HRZ:=Lib.hid hrz
 have hm0:((m:Int) == 0)=false:=by rw [beq_eq_false_iff_ne];omega
 have hin:((i:Int) == (n:Int))=false:=by rw [beq_eq_false_iff_ne];omega
 have hw1:IntKind.i64.wrap ((i:Int) + (m:Int))=(i:Int) + (m:Int):=by rw [IntKind.wrap_i64];omega
 have hb1:(0:Int)≤(i:Int) + (m:Int):=by omega
 have hile:i≤n:=by omega
 have htn:((i:Int) + (m:Int)).toNat=i + m:=by omega
 have hb2:¬ (G=i + m):=by omega
 have hb3:(i:Int)≤(n:Int):=by omega
 have hb4:¬ (c=i):=by omega
 have s4:=slice_fromC' H (n + m) G i (by omega) (by omega)
 have hb5:(i:Int) + (m:Int)≤(n:Int) + (m:Int):=by omega
 clear hrz hc2 h hn hS hR hdl hV hvc hX hXl hXg hR1 hR2 hR3 hvw hW1 hW2 hW3 ht0 ht2 ht3 hY hYl hYJ hYg hZ hZl hZJ hZg hxl hdl2 hq1 hRl hROW hG hH hgw hbg hi0 hz0 hzs hzb
 go_enter Tryz.func99,Tryz.ntmps99
 go_wp2_with (at_builtin;refine Lib.wpList_append_run w (by rfl) (.tmp 34) (.tmp 39) 33 3 (by rfl) (.slice (some ⟨g,0,none⟩) i c) (.int .i64 ((n:Int) + (m:Int) - (i:Int))) (by rfl) (by rfl) _ _ (HRZ.out _) ?_)
 go_region_law (refine step_copy W2.drew rfl (.tmp 50) (.tmp 53) (by rfl) _ _ (by simp [Act.eval,Act.put]) (by simp [Act.eval,Act.put]) HC2.out ?_)
 go_wp2_with fail
 go_ret
 exact HO.out
set_option maxHeartbeats 1000000 in
theorem insC_any (w:World) (base:Nat) (A:Option Addr) (n c:Nat) (cs:List Int) (h:OwnC w base (.slice A n c) cs) (hbase:base≤w.heap.size) (i:Nat) (hi:i≤n) (B:Option Addr) (m d:Nat) (ds:List Int) (hV:Crs w w.heap.size B m d ds)
  (hne:0<m→∀ g,Value.ownBlock (.slice A n c)=some g→∀ ad,B=some ad→ad.block≠g) (hfit:n + m≤1000000) :
  Calls Tryz.prog 99 #[.slice A n c,.int .i64 (i:Int),.slice B m d] w (Turned w (.slice A n c) base (n + m) (cs.take i ++ ds ++ cs.drop i)):=by
 obtain ⟨hn,hS⟩:=h.crs
 have hle:=hS.le
 obtain ⟨v1,s1⟩:=slice_fromV A n c i hi
 have hcap:=hS.cap
 unfold maxLen at hcap
 have hdl:=hV.len
 rcases Nat.eq_zero_or_pos m with hm | hm
 ·subst hm
  have e0:ds=[]:=List.eq_nil_of_length_eq_zero hdl
  rw [e0,List.append_nil,List.take_append_drop,Nat.add_zero]
  have HO:=Lib.hid (show Turned w (.slice A n c) base n cs (.returned (.slice A n c)) w from ⟨A,c,rfl,h,Tn.refl _ w,fun g hg=>Or.inl hg⟩)
  clear h hS hV hne hn hdl e0
  go_enter Tryz.func99,Tryz.ntmps99
  go_wp2_with fail
  go_ret
  exact HO.out
 ·rcases Nat.lt_or_ge i n with hin | hin
  ·obtain ⟨g,rfl,hbg⟩:=OwnC.pos_ h (by omega)
   obtain ⟨vg,vo,rfl,_,_⟩:=hV.at_ (i:=0) hm
   rcases Nat.lt_or_ge c (n + m) with hr | hr
   ·exact insC_grow w base g n c cs h i hin vg vo m d ds hV hm hr hfit
   ·exact insC_room w base g n c cs h i hin vg vo m d ds hV (hne hm g rfl _ rfl) hm hr hfit
  ·have hieq:i=n:=by omega
   subst hieq
   have e1:cs.take i=cs:=List.take_of_length_le (by omega)
   have e2:cs.drop i=[]:=List.drop_of_length_le (by omega)
   rw [e1,e2,List.append_nil]
   have HH:=Lib.hid h
   have HV:=Lib.hid hV
   have hm0:((m:Int) == 0)=false:=by rw [beq_eq_false_iff_ne];omega
   clear h hS hV hne hn hdl e1 e2
   go_enter Tryz.func99,Tryz.ntmps99
   go_wp2_with (at_builtin;refine wpList_append_crs w (by rfl) (.tmp 23) (.tmp 24) (by rfl) base A i c cs (by rfl) HH.out w.heap.size B m d ds (by rfl) HV.out (by omega) hbase ?_)
   intro A2 c2 w2 hO hg hat
   have HO:=Lib.hid (show Turned w (.slice A i c) base (i + m) (cs ++ ds) (.returned (.slice A2 (i + m) c2)) w2 from
    ⟨A2,c2,rfl,hO,Tn.grown (Tn.refl _ w) hg (fun k e=>Or.inr e),fun g hg2=>hat.elim (fun e=>Or.inl (e ▸ hg2)) (fun e=>Or.inr (by rw [hg2] at e;cases e;exact Nat.le_refl _))⟩)
   clear hO hg hat
   go_wp2_with fail
   go_ret
   exact HO.out
open Go.RowKit
open Pl (Un)
theorem OwnC.then_ {w w':World} {base:Nat} {v:Value} {cs:List Int} (h:OwnC w base v cs) (hb:Below w.heap.size w w'):OwnC w' base v cs:=h.below hb fun g hg=>(h.lt g hg).2
theorem eqlC_nil (A:Option Addr) (n c:Nat) (w:World):(binOp .eql 33 (.slice A n c) (.slice none 0 0)).run Tryz.prog w=.ok (.bool A.isNone) w:=Lib.run_eql_slice_nil w _ _ A n c 0 0 Tryz.underlying33
def RetC (w:World) (cs:List Int) (e:Ending) (w':World):Prop:=∃ A c,e=.returned (.slice A cs.length c)∧OwnC w' w.heap.size (.slice A cs.length c) cs∧Below w.heap.size w w'
set_option maxHeartbeats 400000 in
theorem cloneC_any (A:Option Addr) (n c:Nat) (cs:List Int) (w:World) (h1:Crs w w.heap.size A n c cs) (hr:n * 4≤140737488355328) :
  Calls Tryz.prog 98 #[.slice A n c] w (RetC w cs):=by
 cases A with
 | none =>
  have hc:c=0:=h1.nil_ rfl
  have hn:n=0:=by have:=h1.le;omega
  subst hc hn
  obtain rfl:cs=[]:=List.eq_nil_of_length_eq_zero h1.len
  have q:=eqlC_nil none 0 0
  go_enter Tryz.func98,Tryz.ntmps98
  go_wp2
  go_ret
  exact ⟨none,0,rfl,OwnC.nil_ _ _,Below.refl _ _⟩
 | some ad =>
  have q:=eqlC_nil (some ad) n c
  have hb1:Below w.heap.size w (w.alloc (.cells #[] 41)):=(Below.refl _ _).alloc (Nat.le_refl _) _
  have HB:=Lib.hid (h1.below hb1 (Nat.le_refl _))
  have HV:=Lib.hid (show OwnC (w.alloc (.cells #[] 41)) w.heap.size (.slice (some ⟨w.heap.size,0,none⟩) 0 0) [] from crs_lit w [] (fun x hx=>by cases hx) (by simp))
  have HL:=Lib.hid h1.len
  have HB1:=Lib.hid hb1
  clear h1 hb1
  go_enter Tryz.func98,Tryz.ntmps98
  go_wp2_with (at_builtin;refine wpList_append_crs (w.alloc (.cells #[] 41)) rfl (.tmp 5) (.tmp 6) rfl w.heap.size _ _ _ [] (by rfl) HV.out w.heap.size _ _ _ cs (by rfl) HB.out (by omega) (by simp) ?_)
  intro A2 c2 w2 hV2 hg2 hx2
  have hb2:=below_appendC HV.out hg2 HB1.out (by simp)
  clear hx2 hg2
  have hV2:OwnC w2 w.heap.size (.slice A2 n c2) cs:=by simpa using hV2
  have H2:=Lib.hid (And.intro hV2 hb2)
  clear hV2 hb2
  go_wp2
  go_ret
  refine ⟨A2,c2,?_,?_,H2.out.2⟩
  ·rw [HL.out];simp
  ·rw [HL.out];exact H2.out.1
theorem eqlU_nil (A:Option Addr) (n c:Nat) (w:World):(binOp .eql 29 (.slice A n c) (.slice none 0 0)).run Tryz.prog w=.ok (.bool A.isNone) w:=Lib.run_eql_slice_nil w _ _ A n c 0 0 Tryz.underlying29
def RetU (w:World) (l:List Un) (e:Ending) (w':World):Prop:=∃ A c,e=.returned (.slice A l.length c)∧OwnU w' w.heap.size (.slice A l.length c) l∧Below w.heap.size w w'
theorem units_lit (w:World) (l:List Un) (hl:l.length≤maxLen):OwnU (w.alloc (.cells (cellsR encU l).toArray 47)) w.heap.size (.slice (some ⟨w.heap.size,0,none⟩) l.length l.length) l:=OwnR.lit encU_len w l hl
theorem OwnU.uns {w:World} {base n c:Nat} {A:Option Addr} {l:List Un} (h:OwnU w base (.slice A n c) l):Uns w w.heap.size A n c l:=(OwnR.rws encU_len h).2
theorem OwnU.len {w:World} {base n c:Nat} {A:Option Addr} {l:List Un} (h:OwnU w base (.slice A n c) l):n=l.length:=(OwnR.rws encU_len h).1
set_option maxHeartbeats 400000 in
theorem cloneU_any (A:Option Addr) (n c:Nat) (l:List Un) (w:World) (h1:Uns w w.heap.size A n c l) (hr:n≤1000) :
  Calls Tryz.prog 158 #[.slice A n c] w (RetU w l):=by
 cases A with
 | none =>
  have hc:c=0:=h1.nil_ rfl
  have hn:n=0:=by have:=h1.le;omega
  subst hc hn
  obtain rfl:l=[]:=List.eq_nil_of_length_eq_zero h1.len
  have q:=eqlU_nil none 0 0
  go_enter Tryz.func158,Tryz.ntmps158
  go_wp2_with fail
  go_ret
  exact ⟨none,0,rfl,OwnR.nil_ _ _ _ _ _,Below.refl _ _⟩
 | some ad =>
  have q:=eqlU_nil (some ad) n c
  have hb1:Below w.heap.size w (w.alloc (.cells #[] 47)):=(Below.refl _ _).alloc (Nat.le_refl _) _
  have HB:=Lib.hid (h1.below hb1 (Nat.le_refl _))
  have HV:=Lib.hid (show OwnU (w.alloc (.cells #[] 47)) w.heap.size (.slice (some ⟨w.heap.size,0,none⟩) 0 0) [] from units_lit w [] (by simp))
  have HL:=Lib.hid h1.len
  have HB1:=Lib.hid hb1
  clear h1 hb1
  go_enter Tryz.func158,Tryz.ntmps158
  go_wp2_with (at_builtin;refine wpList_append_rws encU_len encU_one Tryz.underlying29 infoUn (by decide) (by decide) (w.alloc (.cells #[] 47)) rfl (.tmp 5) (.tmp 6) rfl w.heap.size _ _ _ [] (by rfl) HV.out w.heap.size _ _ _ l (by rfl) HB.out (by unfold maxLen;omega) (by omega) (by simp) ?_)
  intro A2 c2 w2 hV2 hg2 hx2
  have hb2:=OwnR.grownBelow HV.out hg2 HB1.out (by simp)
  clear hx2 hg2
  have hV2:OwnU w2 w.heap.size (.slice A2 n c2) l:=by simpa using hV2
  have H2:=Lib.hid (And.intro hV2 hb2)
  clear hV2 hb2
  go_wp2_with fail
  go_ret
  refine ⟨A2,c2,?_,?_,H2.out.2⟩
  ·rw [HL.out];simp
  ·rw [HL.out];exact H2.out.1
def SRel (w:World) (n:Nat) (xs bs:List Int) (i:Value) (wr:World):Prop:=∃ j:Nat,i=.int .i64 (j:Int)∧j≤n∧Below w.heap.size w wr∧∀ t,t<j→xs.getD t 0=bs.getD t 0
theorem ext_getD {xs bs:List Int} (hl:xs.length=bs.length) (h:∀ t,t<xs.length→xs.getD t 0=bs.getD t 0):xs=bs:=by
 refine List.ext_getElem hl fun i h1 h2=>?_
 have:=h i h1
 rwa [List.getD_eq_getElem?_getD,List.getD_eq_getElem?_getD,List.getElem?_eq_getElem h1,List.getElem?_eq_getElem h2] at this
set_option maxHeartbeats 400000 in
theorem sameC_any (A A':Option Addr) (n c m c':Nat) (xs bs:List Int) (w:World) (h1:Crs w w.heap.size A n c xs) (h2:Crs w w.heap.size A' m c' bs) :
  Calls Tryz.prog 23 #[.slice A n c,.slice A' m c'] w fun e w'=>e=.returned (.bool (decide (xs=bs)))∧Below w.heap.size w w':=by
 have hcap1:=h1.cap
 have hle1:=h1.le
 have hcap2:=h2.cap
 have hle2:=h2.le
 unfold maxLen at hcap1 hcap2
 have HL1:=Lib.hid h1.len
 have HL2:=Lib.hid h2.len
 by_cases hnm:n=m
 ·subst hnm
  have H1:=Lib.hid h1
  have H2:=Lib.hid h2
  clear h1 h2
  go_enter Tryz.func23,Tryz.ntmps23
  go_wp2_with fail
  go_loopw [5] (fun i wr=>SRel w n xs bs i wr) (fun i _=>n - (intOf i).toNat)
  case atStart=>exact ⟨0,rfl,Nat.zero_le _,Below.refl _ _,fun t ht=>by omega⟩
  case round =>
   obtain ⟨j,rfl,hj,hb,hs⟩:=hrel
   have HB:=Lib.hid hb
   have HS:=Lib.hid hs
   clear hb hs
   by_cases hlt:j<n
   ·obtain ⟨g1,o1,rfl,hg1,hc1⟩:=(H1.out.below HB.out (Nat.le_refl _)).at_ hlt
    obtain ⟨g2,o2,rfl,hg2,hc2⟩:=(H2.out.below HB.out (Nat.le_refl _)).at_ hlt
    have a1:=hc1 j hlt
    have a2:=hc2 j hlt
    have HNX:=Lib.hid (show xs.getD j 0=bs.getD j 0→∀ t,t<j + 1→xs.getD t 0=bs.getD t 0 from fun h t ht=>by
     rcases Nat.lt_or_ge t j with h1 | h1
     ·exact HS.out t h1
     ·obtain rfl:t=j:=by omega
      exact h)
    have HNE:=Lib.hid (show xs.getD j 0≠bs.getD j 0→xs≠bs from fun h e=>h (by rw [e]))
    clear hc1 hc2
    obtain ⟨x,hx⟩ : ∃ x,x=xs.getD j 0:=⟨_,rfl⟩
    obtain ⟨y,hy⟩ : ∃ y,y=bs.getD j 0:=⟨_,rfl⟩
    rw [← hx] at a1 HNX HNE
    rw [← hy] at a2 HNX HNE
    clear hx hy
    have z0:(0:Int)≤(j:Int):=by omega
    have z1:(j:Int)<(n:Int):=by omega
    by_cases hxy:x=y
    ·subst hxy
     have HN2:=Lib.hid (HNX.out rfl)
     go_wp2_with fail
     go_region_held3 (fun w'=>w'.cell? ⟨g1,o1 + j,none⟩=some (.int .i32 x)∧w'.cell? ⟨g2,o2 + j,none⟩=some (.int .i32 x)) (go_keep) (fail)
     go_wp2_with fail
     go_roundw
     case rel=>exact ⟨j + 1,by go_num,by omega,below_drawn HB.out,HN2.out⟩
     case measure=>simp [intOf];omega
    ·have HN2:=Lib.hid (HNE.out hxy)
     have hbne:(x != y)=true:=by rw [bne_iff_ne];exact hxy
     go_wp2_with fail
     go_region_held3 (fun w'=>w'.cell? ⟨g1,o1 + j,none⟩=some (.int .i32 x)∧w'.cell? ⟨g2,o2 + j,none⟩=some (.int .i32 y)) (go_keep) (fail)
     go_wp2_with fail
     go_ret
     exact ⟨ret_bool (decide_eq_false HN2.out).symm,below_drawn HB.out⟩
   ·have hjn:j=n:=by omega
    have HE:=Lib.hid (show xs=bs from ext_getD (HL1.out.trans HL2.out.symm) (fun t ht=>HS.out t (by have:=HL1.out;omega)))
    clear hjn
    go_wp2_with fail
    go_ret
    exact ⟨ret_bool (decide_eq_true HE.out).symm,HB.out⟩
 ·have HN:=Lib.hid (show xs≠bs from fun e=>hnm (by rw [← HL1.out,← HL2.out,e]))
  have hb:((n:Int) != (m:Int))=true:=by rw [bne_iff_ne];omega
  clear h1 h2
  go_enter Tryz.func23,Tryz.ntmps23
  go_wp2_with fail
  go_ret
  exact ⟨ret_bool (decide_eq_false HN.out).symm,Below.refl _ _⟩
set_option maxHeartbeats 400000 in
theorem equalC_any (A A':Option Addr) (n c m c':Nat) (xs bs:List Int) (w:World) (h1:Crs w w.heap.size A n c xs) (h2:Crs w w.heap.size A' m c' bs) :
  Calls Tryz.prog 30 #[.slice A n c,.slice A' m c'] w fun e w'=>e=.returned (.bool (decide (xs=bs)))∧Below w.heap.size w w':=by
 have hcap1:=h1.cap
 have hle1:=h1.le
 have hcap2:=h2.cap
 have hle2:=h2.le
 unfold maxLen at hcap1 hcap2
 have HL1:=Lib.hid h1.len
 have HL2:=Lib.hid h2.len
 by_cases hnm:n=m
 ·subst hnm
  have H1:=Lib.hid h1
  have H2:=Lib.hid h2
  clear h1 h2
  go_enter Tryz.func30,Tryz.ntmps30
  go_wp2_with fail
  go_loopw [13] (fun i wr=>SRel w n xs bs i wr) (fun i _=>n - (intOf i).toNat)
  case atStart=>exact ⟨0,rfl,Nat.zero_le _,Below.refl _ _,fun t ht=>by omega⟩
  case round =>
   obtain ⟨j,rfl,hj,hb,hs⟩:=hrel
   have HB:=Lib.hid hb
   have HS:=Lib.hid hs
   clear hb hs
   by_cases hlt:j<n
   ·obtain ⟨g1,o1,rfl,hg1,hc1⟩:=(H1.out.below HB.out (Nat.le_refl _)).at_ hlt
    obtain ⟨g2,o2,rfl,hg2,hc2⟩:=(H2.out.below HB.out (Nat.le_refl _)).at_ hlt
    have a1:=hc1 j hlt
    have a2:=hc2 j hlt
    have HNX:=Lib.hid (show xs.getD j 0=bs.getD j 0→∀ t,t<j + 1→xs.getD t 0=bs.getD t 0 from fun h t ht=>by
     rcases Nat.lt_or_ge t j with h1 | h1
     ·exact HS.out t h1
     ·obtain rfl:t=j:=by omega
      exact h)
    have HNE:=Lib.hid (show xs.getD j 0≠bs.getD j 0→xs≠bs from fun h e=>h (by rw [e]))
    clear hc1 hc2
    obtain ⟨x,hx⟩ : ∃ x,x=xs.getD j 0:=⟨_,rfl⟩
    obtain ⟨y,hy⟩ : ∃ y,y=bs.getD j 0:=⟨_,rfl⟩
    rw [← hx] at a1 HNX HNE
    rw [← hy] at a2 HNX HNE
    clear hx hy
    have z0:(0:Int)≤(j:Int):=by omega
    have z1:(j:Int)<(n:Int):=by omega
    by_cases hxy:x=y
    ·subst hxy
     have HN2:=Lib.hid (HNX.out rfl)
     go_wp2_with fail
     go_region_held3 (fun w'=>w'.cell? ⟨g1,o1 + j,none⟩=some (.int .i32 x)∧w'.cell? ⟨g2,o2 + j,none⟩=some (.int .i32 x)) (go_keep) (fail)
     go_wp2_with fail
     go_roundw
     case rel=>exact ⟨j + 1,by go_num,by omega,below_drawn HB.out,HN2.out⟩
     case measure=>simp [intOf];omega
    ·have HN2:=Lib.hid (HNE.out hxy)
     have hbne:(x != y)=true:=by rw [bne_iff_ne];exact hxy
     go_wp2_with fail
     go_region_held3 (fun w'=>w'.cell? ⟨g1,o1 + j,none⟩=some (.int .i32 x)∧w'.cell? ⟨g2,o2 + j,none⟩=some (.int .i32 y)) (go_keep) (fail)
     go_wp2_with fail
     go_ret
     exact ⟨ret_bool (decide_eq_false HN2.out).symm,below_drawn HB.out⟩
   ·have hjn:j=n:=by omega
    have HE:=Lib.hid (show xs=bs from ext_getD (HL1.out.trans HL2.out.symm) (fun t ht=>HS.out t (by have:=HL1.out;omega)))
    clear hjn
    go_wp2_with fail
    go_ret
    exact ⟨ret_bool (decide_eq_true HE.out).symm,HB.out⟩
 ·have HN:=Lib.hid (show xs≠bs from fun e=>hnm (by rw [← HL1.out,← HL2.out,e]))
  have hb:((n:Int) != (m:Int))=true:=by rw [bne_iff_ne];omega
  clear h1 h2
  go_enter Tryz.func30,Tryz.ntmps30
  go_wp2_with fail
  go_ret
  exact ⟨ret_bool (decide_eq_false HN.out).symm,Below.refl _ _⟩
def URel (w:World) (n:Nat) (xs bs:List Un) (i:Value) (wr:World):Prop:=∃ j:Nat,i=.int .i64 (j:Int)∧j≤n∧Below w.heap.size w wr∧∀ t,t<j→xs.getD t default=bs.getD t default
theorem ext_getU {xs bs:List Un} (hl:xs.length=bs.length) (h:∀ t,t<xs.length→xs.getD t default=bs.getD t default):xs=bs:=by
 refine List.ext_getElem hl fun i h1 h2=>?_
 have:=h i h1
 rwa [List.getD_eq_getElem?_getD,List.getD_eq_getElem?_getD,List.getElem?_eq_getElem h1,List.getElem?_eq_getElem h2] at this
set_option maxHeartbeats 400000 in
theorem equalU_any (A A':Option Addr) (n c m c':Nat) (xs bs:List Un) (w:World) (h1:Uns w w.heap.size A n c xs) (h2:Uns w w.heap.size A' m c' bs) :
  Calls Tryz.prog 32 #[.slice A n c,.slice A' m c'] w fun e w'=>e=.returned (.bool (decide (xs=bs)))∧Below w.heap.size w w':=by
 have hcap1:=h1.cap
 have hle1:=h1.le
 have hcap2:=h2.cap
 have hle2:=h2.le
 unfold maxLen at hcap1 hcap2
 have HL1:=Lib.hid h1.len
 have HL2:=Lib.hid h2.len
 by_cases hnm:n=m
 ·subst hnm
  have H1:=Lib.hid h1
  have H2:=Lib.hid h2
  clear h1 h2
  go_enter Tryz.func32,Tryz.ntmps32
  go_wp2_with fail
  go_loopw [13] (fun i wr=>URel w n xs bs i wr) (fun i _=>n - (intOf i).toNat)
  case atStart=>exact ⟨0,rfl,Nat.zero_le _,Below.refl _ _,fun t ht=>by omega⟩
  case round =>
   obtain ⟨j,rfl,hj,hb,hs⟩:=hrel
   have HB:=Lib.hid hb
   have HS:=Lib.hid hs
   clear hb hs
   by_cases hlt:j<n
   ·obtain ⟨g1,o1,rfl,hg1,hc1⟩:=Uns.at_ (Rws.below H1.out HB.out (Nat.le_refl _)) hlt
    obtain ⟨g2,o2,rfl,hg2,hc2⟩:=Uns.at_ (Rws.below H2.out HB.out (Nat.le_refl _)) hlt
    obtain ⟨a0,a1,a2,a3,a4⟩:=hc1 j hlt
    obtain ⟨b0,b1,b2,b3,b4⟩:=hc2 j hlt
    have HNX:=Lib.hid (show xs.getD j default=bs.getD j default→∀ t,t<j + 1→xs.getD t default=bs.getD t default from fun h t ht=>by
     rcases Nat.lt_or_ge t j with h1 | h1
     ·exact HS.out t h1
     ·obtain rfl:t=j:=by omega
      exact h)
    have HNE:=Lib.hid (show xs.getD j default≠bs.getD j default→xs≠bs from fun h e=>h (by rw [e]))
    clear hc1 hc2
    obtain ⟨⟨k,p,ch,x,y⟩,hx⟩ : ∃ x,x=xs.getD j default:=⟨_,rfl⟩
    obtain ⟨⟨k',p',ch',x',y'⟩,hy⟩ : ∃ y,y=bs.getD j default:=⟨_,rfl⟩
    rw [← hx] at a0 a1 a2 a3 a4 HNX HNE
    rw [← hy] at b0 b1 b2 b3 b4 HNX HNE
    simp only at a0 a1 a2 a3 a4 b0 b1 b2 b3 b4
    clear hx hy
    have z0:(0:Int)≤(j:Int):=by omega
    have z1:(j:Int)<(n:Int):=by omega
    have hq:=fun w=>neq_unit k p ch x y k' p' ch' x' y' w
    have hgd:=fun x1 y1 w=>guard_unit .neq x1 y1 #[.int .i64 k,.int .i64 p,.int .i32 ch,.int .u32 x,.int .u64 y] #[.int .i64 k',.int .i64 p',.int .i32 ch',.int .u32 x',.int .u64 y'] w
    by_cases hxy:(⟨k,p,ch,x,y⟩ : Un)=⟨k',p',ch',x',y'⟩
    ·have HN2:=Lib.hid (HNX.out hxy)
     rw [decide_eq_true hxy] at hq
     clear hxy
     go_wp2_with fail
     go_region_held3 (fun w'=>w'.cell? ⟨g1,o1 + j * 5,none⟩=some (.int .i64 k)∧w'.cell? ⟨g1,o1 + j * 5 + 1,none⟩=some (.int .i64 p)∧w'.cell? ⟨g1,o1 + j * 5 + 2,none⟩=some (.int .i32 ch)∧w'.cell? ⟨g1,o1 + j * 5 + 3,none⟩=some (.int .u32 x)∧w'.cell? ⟨g1,o1 + j * 5 + 4,none⟩=some (.int .u64 y)∧w'.cell? ⟨g2,o2 + j * 5,none⟩=some (.int .i64 k')∧w'.cell? ⟨g2,o2 + j * 5 + 1,none⟩=some (.int .i64 p')∧w'.cell? ⟨g2,o2 + j * 5 + 2,none⟩=some (.int .i32 ch')∧w'.cell? ⟨g2,o2 + j * 5 + 3,none⟩=some (.int .u32 x')∧w'.cell? ⟨g2,o2 + j * 5 + 4,none⟩=some (.int .u64 y')) (go_keep) (fail)
     go_wp2_with fail
     go_roundw
     case rel=>exact ⟨j + 1,by go_num,by omega,below_drawn HB.out,HN2.out⟩
     case measure=>simp [intOf];omega
    ·have HN2:=Lib.hid (HNE.out hxy)
     rw [decide_eq_false hxy] at hq
     clear hxy
     go_wp2_with fail
     go_region_held3 (fun w'=>w'.cell? ⟨g1,o1 + j * 5,none⟩=some (.int .i64 k)∧w'.cell? ⟨g1,o1 + j * 5 + 1,none⟩=some (.int .i64 p)∧w'.cell? ⟨g1,o1 + j * 5 + 2,none⟩=some (.int .i32 ch)∧w'.cell? ⟨g1,o1 + j * 5 + 3,none⟩=some (.int .u32 x)∧w'.cell? ⟨g1,o1 + j * 5 + 4,none⟩=some (.int .u64 y)∧w'.cell? ⟨g2,o2 + j * 5,none⟩=some (.int .i64 k')∧w'.cell? ⟨g2,o2 + j * 5 + 1,none⟩=some (.int .i64 p')∧w'.cell? ⟨g2,o2 + j * 5 + 2,none⟩=some (.int .i32 ch')∧w'.cell? ⟨g2,o2 + j * 5 + 3,none⟩=some (.int .u32 x')∧w'.cell? ⟨g2,o2 + j * 5 + 4,none⟩=some (.int .u64 y')) (go_keep) (fail)
     go_wp2_with fail
     go_ret
     exact ⟨ret_bool (decide_eq_false HN2.out).symm,below_drawn HB.out⟩
   ·have hjn:j=n:=by omega
    have HE:=Lib.hid (show xs=bs from ext_getU (HL1.out.trans HL2.out.symm) (fun t ht=>HS.out t (by have:=HL1.out;omega)))
    clear hjn
    go_wp2_with fail
    go_ret
    exact ⟨ret_bool (decide_eq_true HE.out).symm,HB.out⟩
 ·have HN:=Lib.hid (show xs≠bs from fun e=>hnm (by rw [← HL1.out,← HL2.out,e]))
  have hb:((n:Int) != (m:Int))=true:=by rw [bne_iff_ne];omega
  clear h1 h2
  go_enter Tryz.func32,Tryz.ntmps32
  go_wp2_with fail
  go_ret
  exact ⟨ret_bool (decide_eq_false HN.out).symm,Below.refl _ _⟩
open Go.RowKit
open Pl (Un)
namespace Pl
def insL (p:Nat) (c:Int) (l:List Int):List Int:=l.take p ++ c :: l.drop p
def delL (p:Nat) (l:List Int):List Int:=l.take p ++ l.drop (p + 1)
theorem len_insL {p:Nat} {c:Int} {l:List Int} (h:p≤l.length):(insL p c l).length=l.length + 1:=by
 unfold insL;simp;omega
theorem len_delL {p:Nat} {l:List Int} (h:p<l.length):(delL p l).length + 1=l.length:=by
 unfold delL;simp;omega
theorem behind_ins (p:Nat) (c x y:Int) (l:List Int):behind ⟨1,(p:Int),c,x,y⟩ l=insL p c l:=by unfold behind insL;simp
theorem behind_del (p:Nat) (c x y:Int) (l:List Int):behind ⟨2,(p:Int),c,x,y⟩ l=delL p l:=by unfold behind delL;simp
theorem behind_nop (p c x y:Int) (l:List Int):behind ⟨0,p,c,x,y⟩ l=l:=by unfold behind;simp
theorem fit_cases {u:Un} {n:Nat} (h:Fit u n):(∃ x y,u=⟨0,0,0,x,y⟩)∨(∃ (p:Nat) (c x y:Int),u=⟨1,(p:Int),c,x,y⟩∧p≤n∧May c)∨∃ (p:Nat) (c x y:Int),u=⟨2,(p:Int),c,x,y⟩∧p<n∧May c:=by
 obtain ⟨k,p,c,x,y⟩:=u
 obtain ⟨h1,h2,h3⟩:=h
 rcases h1 with ⟨e1,e2,e3⟩ | ⟨e1,e2,e3⟩
 ·simp only at e1 e2 e3
  subst e1 e2 e3
  exact Or.inl ⟨x,y,rfl⟩
 ·simp only at e1 e2 e3 h2 h3
  obtain ⟨q,rfl⟩ : ∃ q:Nat,p=(q:Int):=⟨p.toNat,by omega⟩
  rcases e1 with rfl | rfl
  ·exact Or.inr (Or.inl ⟨q,c,x,y,rfl,by have:=h2 rfl;omega,e3⟩)
  ·exact Or.inr (Or.inr ⟨q,c,x,y,rfl,by have:=h3 rfl;omega,e3⟩)
theorem fit_ins {p n:Nat} {c:Int} (x y:Int) (h:p≤n) (hc:May c):Fit ⟨1,(p:Int),c,x,y⟩ n:=⟨Or.inr ⟨Or.inl rfl,(by simp only;omega),hc⟩,(fun _=>by simp only;omega),(fun h=>by cases h)⟩
theorem fit_del {p n:Nat} {c:Int} (x y:Int) (h:p<n) (hc:May c):Fit ⟨2,(p:Int),c,x,y⟩ n:=⟨Or.inr ⟨Or.inr rfl,(by simp only;omega),hc⟩,(fun h=>by cases h),(fun _=>by simp only;omega)⟩
theorem len_behind {u:Un} {cs:List Int} (h:Fit u cs.length):((behind u cs).length:Int)=cs.length + grows u.k:=by
 rcases fit_cases h with ⟨x,y,rfl⟩ | ⟨p,c,x,y,rfl,hp,_⟩ | ⟨p,c,x,y,rfl,hp,_⟩
 ·rw [behind_nop];simp [grows]
 ·rw [behind_ins,len_insL hp];simp [grows]
 ·rw [behind_del];have:=len_delL hp;simp [grows];omega
end Pl
end Go.Proofs.YtlgdcelgkiipaaaGreat
