/-
  The document's examples (awake). No conditions.
  A document in plain words: an operation taken back behind another one's, and that taken back again (what DocUndoes looks at).
  The statements' own fit: a row brought to fit a length, at most twelve units. Conditions: the length is at most a thousand; the Chars start from a number between 0 and ten thousand.
  A law's own document, rows and texts that it keeps while the document goes on. No conditions but those that each states.
-/
import Derived.Test.YtlgdcelgkiipaaaGreatOc45
import Derived.Test.YtlgdcelgkiipaaaGreatOc13
import Derived.Test.YtlgdcelgkiipaaaGreatOc33
import Derived.Test.YtlgdcelgkiipaaaGreatOc04
import Derived.Test.YtlgdcelgkiipaaaGreatOc12
import Derived.Test.YtlgdcelgkiipaaaGreatOc08
import Derived.Test.YtlgdcelgkiipaaaGreatOc01
import Derived.BigQuiet
set_option maxRecDepth 100000
set_option linter.unusedVariables false
namespace Go.Proofs.YtlgdcelgkiipaaaGreat
open Go.RowKit
open Pl (Un)
set_option maxHeartbeats 400000 in
theorem id13_any (x y:Int) (w:World) :
  Calls Tryz.prog 16 #[.int .u32 x,.int .u64 y] w fun e w'=>e=.returned (.agg #[.int .u32 x,.int .u64 y])∧Below w.heap.size w w':=by
 go_enter Tryz.func16,Tryz.ntmps16
 go_wp2_with fail
 go_returns
 exact ⟨rfl,by first | exact Below.refl _ _ | exact below_box _ _⟩
set_option maxHeartbeats 400000 in
theorem ins13_any (p ch x y:Int) (w:World) :
  Calls Tryz.prog 18 #[.int .i64 p,.int .i32 ch,.int .u32 x,.int .u64 y] w fun e w'=>e=.returned (uval ⟨1,p,ch,x,y⟩)∧Below w.heap.size w w':=by
 unfold uval
 go_enter Tryz.func18,Tryz.ntmps18
 go_wp2_with fail
 go_returns
 exact ⟨rfl,by first | exact Below.refl _ _ | exact below_box _ _⟩
set_option maxHeartbeats 4000000 in
theorem awake_any (w:World) :
  Calls Tryz.prog 29 #[] w fun e w'=>e=.returned (.bool true)∧Below w.heap.size w w':=by
 go_enter Tryz.func29,Tryz.ntmps29
 go_wp2_with fail
 refine (newD_any w).mono ?_
 rintro e W0 ⟨D,k0,rfl,hd0,hk0,hb0⟩
 have HD0:=Lib.hid (And.intro hd0 hk0)
 have HB0:=Lib.hid hb0
 have HM0:=Lib.hid (show (0:Nat)≤0 from Nat.le_refl _)
 clear hd0 hk0 hb0
 go_wp2_with fail
 have hC1:=open_any HD0.out.1 (c:=1) (by decide) 0 (by decide) 5 (by decide) (by decide) (by decide)
 rw [show Pl.Dc.zero.open_ 1 0 5=Pl.Dc.aw1 from rfl] at hC1
 have HC1:=Lib.hid hC1
 clear hC1
 refine HC1.out.mono ?_
 rintro e w1 ⟨k1,m1,v1,rfl,hd,hm,hv,A1,n1,c1,B1,p1,q1,C1,r1,s1,rfl,hr⟩
 have hv2:=hv
 have HM1:=Lib.hid (show m1≤256 by omega)
 obtain ⟨a1,ha1⟩ : ∃ a,a=Pl.Dc.aw1.2:=⟨_,rfl⟩
 rw [← ha1] at hr ⊢
 have HA1:=Lib.hid ha1
 clear ha1
 have hkn:=AnK.new hd.lt hr
 have hbb:=below_box w1 (.cells #[.int .i64 a1.e,.int .u32 0,.int .u64 (a1.rev:Int),.bool a1.whole,.slice A1 n1 c1,.slice B1 p1 q1,.slice C1 r1 s1] 37)
 unfold aval
 go_wp2_with fail
 generalize w1.alloc (.cells #[.int .i64 a1.e,.int .u32 0,.int .u64 (a1.rev:Int),.bool a1.whole,.slice A1 n1 c1,.slice B1 p1 q1,.slice C1 r1 s1] 37)=W1 at hkn hbb ⊢
 have HD1:=Lib.hid (And.intro (hd.then_ hbb) (And.intro (hv2.then_ hbb) hkn))
 clear hd hm hv hr hv2 hkn hbb HC1
 refine (id13_any 1 1 W1).mono ?_
 rintro e V2 ⟨rfl,hv2⟩
 have HB2:=Lib.hid hv2
 clear hv2
 go_wp2_with fail
 refine (ins13_any 0 97 1 1 V2).mono ?_
 rintro e U2 ⟨rfl,hu2⟩
 have HU2:=Lib.hid (below_then HB2.out hu2)
 clear hu2
 unfold uval
 go_wp2_with fail
 have hb2:=below_box U2 (.cells #[.int .i64 1,.int .i64 0,.int .i32 97,.int .u32 1,.int .u64 1] 47)
 have hl2:OwnU (U2.alloc (.cells #[.int .i64 1,.int .i64 0,.int .i32 97,.int .u32 1,.int .u64 1] 47)) U2.heap.size (.slice (some ⟨U2.heap.size,0,none⟩) 1 1) [⟨1,0,97,1,1⟩]:=units_lit U2 [⟨1,0,97,1,1⟩] (by simp [maxLen])
 generalize U2.alloc (.cells #[.int .i64 1,.int .i64 0,.int .i32 97,.int .u32 1,.int .u64 1] 47)=X2 at hb2 hl2 ⊢
 have hd2:=HD1.out.1.then_ (below_then HU2.out hb2)
 have hap2:Apart (fun b=>k1 b≠0) (some ⟨U2.heap.size,0,none⟩) 1:=fun _ ad e hn=>by
  cases e
  have h1:=HD1.out.1.lt _ hn
  have h2:=HU2.out.size
  simp only at h1
  omega
 have hC2:=edit_any hd2 (x:=1) (y:=1) (by decide) 0 (by decide) _ 1 1 [⟨1,0,97,1,1⟩] (OwnU.uns hl2) hap2 (by decide) 6 (by decide) (by decide) (by rw [Pl.Dc.aw_t.1];decide) (by have:=HM1.out;omega)
 have HX2:=Lib.hid (below_then HU2.out hb2)
 clear hb2 hl2 hap2 hd2
 rw [show Pl.Dc.aw1.1.edit 1 1 0 [⟨1,0,97,1,1⟩] 6=Pl.Dc.aw2 from rfl] at hC2
 have HC2:=Lib.hid hC2
 clear hC2
 refine HC2.out.mono ?_
 rintro e w2 ⟨k2,m2,v2,rfl,hd,hm,hv,A2,n2,c2,B2,p2,q2,C2,r2,s2,rfl,hr⟩
 have hv2:=(Mv.of k1 HX2.out).trans hv
 have HM2:=Lib.hid (show m2≤512 by have:=HM1.out;omega)
 obtain ⟨a2,ha2⟩ : ∃ a,a=Pl.Dc.aw2.2:=⟨_,rfl⟩
 rw [← ha2] at hr ⊢
 have HA2:=Lib.hid ha2
 clear ha2
 have hkn:=AnK.new hd.lt hr
 have hbb:=below_box w2 (.cells #[.int .i64 a2.e,.int .u32 0,.int .u64 (a2.rev:Int),.bool a2.whole,.slice A2 n2 c2,.slice B2 p2 q2,.slice C2 r2 s2] 37)
 unfold aval
 go_wp2_with fail
 generalize w2.alloc (.cells #[.int .i64 a2.e,.int .u32 0,.int .u64 (a2.rev:Int),.bool a2.whole,.slice A2 n2 c2,.slice B2 p2 q2,.slice C2 r2 s2] 37)=W2 at hkn hbb ⊢
 have HD2:=Lib.hid (And.intro (hd.then_ hbb) (And.intro (hv2.then_ hbb) hkn))
 clear hd hm hv hr hv2 hkn hbb HC2
 have hC3:=open_any HD2.out.1 (c:=2) (by decide) 1 (by decide) 7 (by decide) (by decide) (by rw [Pl.Dc.aw_t.2.1];decide)
 rw [show Pl.Dc.aw2.1.open_ 2 1 7=Pl.Dc.aw3 from rfl] at hC3
 have HC3:=Lib.hid hC3
 clear hC3
 refine HC3.out.mono ?_
 rintro e w3 ⟨k3,m3,v3,rfl,hd,hm,hv,A3,n3,c3,B3,p3,q3,C3,r3,s3,rfl,hr⟩
 have hv2:=hv
 have HM3:=Lib.hid (show m3≤768 by have:=HM2.out;omega)
 obtain ⟨a3,ha3⟩ : ∃ a,a=Pl.Dc.aw3.2:=⟨_,rfl⟩
 rw [← ha3] at hr ⊢
 have HA3:=Lib.hid ha3
 clear ha3
 have hkn:=AnK.new hd.lt hr
 have hbb:=below_box w3 (.cells #[.int .i64 a3.e,.int .u32 0,.int .u64 (a3.rev:Int),.bool a3.whole,.slice A3 n3 c3,.slice B3 p3 q3,.slice C3 r3 s3] 37)
 unfold aval
 go_wp2_with fail
 generalize w3.alloc (.cells #[.int .i64 a3.e,.int .u32 0,.int .u64 (a3.rev:Int),.bool a3.whole,.slice A3 n3 c3,.slice B3 p3 q3,.slice C3 r3 s3] 37)=W3 at hkn hbb ⊢
 have HD3:=Lib.hid (And.intro (hd.then_ hbb) (And.intro (hv2.then_ hbb) hkn))
 clear hd hm hv hr hv2 hkn hbb HC3
 refine (id13_any 2 1 W3).mono ?_
 rintro e V4 ⟨rfl,hv4⟩
 have HB4:=Lib.hid hv4
 clear hv4
 go_wp2_with fail
 refine (ins13_any 0 98 2 1 V4).mono ?_
 rintro e U4 ⟨rfl,hu4⟩
 have HU4:=Lib.hid (below_then HB4.out hu4)
 clear hu4
 unfold uval
 go_wp2_with fail
 have hb4:=below_box U4 (.cells #[.int .i64 1,.int .i64 0,.int .i32 98,.int .u32 2,.int .u64 1] 47)
 have hl4:OwnU (U4.alloc (.cells #[.int .i64 1,.int .i64 0,.int .i32 98,.int .u32 2,.int .u64 1] 47)) U4.heap.size (.slice (some ⟨U4.heap.size,0,none⟩) 1 1) [⟨1,0,98,2,1⟩]:=units_lit U4 [⟨1,0,98,2,1⟩] (by simp [maxLen])
 generalize U4.alloc (.cells #[.int .i64 1,.int .i64 0,.int .i32 98,.int .u32 2,.int .u64 1] 47)=X4 at hb4 hl4 ⊢
 have hd4:=HD3.out.1.then_ (below_then HU4.out hb4)
 have hap4:Apart (fun b=>k3 b≠0) (some ⟨U4.heap.size,0,none⟩) 1:=fun _ ad e hn=>by
  cases e
  have h1:=HD3.out.1.lt _ hn
  have h2:=HU4.out.size
  simp only at h1
  omega
 have hC4:=edit_any hd4 (x:=2) (y:=1) (by decide) 0 (by decide) _ 1 1 [⟨1,0,98,2,1⟩] (OwnU.uns hl4) hap4 (by decide) 8 (by decide) (by decide) (by rw [Pl.Dc.aw_t.2.2.1];decide) (by have:=HM3.out;omega)
 have HX4:=Lib.hid (below_then HU4.out hb4)
 clear hb4 hl4 hap4 hd4
 rw [show Pl.Dc.aw3.1.edit 2 1 0 [⟨1,0,98,2,1⟩] 8=Pl.Dc.aw4 from rfl] at hC4
 have HC4:=Lib.hid hC4
 clear hC4
 refine HC4.out.mono ?_
 rintro e w4 ⟨k4,m4,v4,rfl,hd,hm,hv,A4,n4,c4,B4,p4,q4,C4,r4,s4,rfl,hr⟩
 have hv2:=(Mv.of k3 HX4.out).trans hv
 have HM4:=Lib.hid (show m4≤1024 by have:=HM3.out;omega)
 obtain ⟨a4,ha4⟩ : ∃ a,a=Pl.Dc.aw4.2:=⟨_,rfl⟩
 rw [← ha4] at hr ⊢
 have HA4:=Lib.hid ha4
 clear ha4
 have hkn:=AnK.new hd.lt hr
 have hbb:=below_box w4 (.cells #[.int .i64 a4.e,.int .u32 0,.int .u64 (a4.rev:Int),.bool a4.whole,.slice A4 n4 c4,.slice B4 p4 q4,.slice C4 r4 s4] 37)
 unfold aval
 go_wp2_with fail
 generalize w4.alloc (.cells #[.int .i64 a4.e,.int .u32 0,.int .u64 (a4.rev:Int),.bool a4.whole,.slice A4 n4 c4,.slice B4 p4 q4,.slice C4 r4 s4] 37)=W4 at hkn hbb ⊢
 have HD4:=Lib.hid (And.intro (hd.then_ hbb) (And.intro (hv2.then_ hbb) hkn))
 clear hd hm hv hr hv2 hkn hbb HC4
 refine (id13_any 1 2 W4).mono ?_
 rintro e V5 ⟨rfl,hv5⟩
 have HB5:=Lib.hid hv5
 clear hv5
 go_wp2_with fail
 have hd5:=HD4.out.1.then_ HB5.out
 have hC5:=undo_any hd5 (x:=1) (y:=2) (by decide) 1 (by decide) 9 (by decide) (by decide) (by rw [Pl.Dc.aw_t.2.2.2.1];decide) (by have:=HM4.out;omega)
 clear hd5
 rw [show Pl.Dc.aw4.1.undo 1 2 1 9=Pl.Dc.aw5 from rfl] at hC5
 have HC5:=Lib.hid hC5
 clear hC5
 refine HC5.out.mono ?_
 rintro e w5 ⟨k5,m5,v5,rfl,hd,hm,hv,A5,n5,c5,B5,p5,q5,C5,r5,s5,rfl,hr⟩
 have hv2:=(Mv.of k4 HB5.out).trans hv
 have HM5:=Lib.hid (show m5≤1280 by have:=HM4.out;omega)
 obtain ⟨a5,ha5⟩ : ∃ a,a=Pl.Dc.aw5.2:=⟨_,rfl⟩
 rw [← ha5] at hr ⊢
 have HA5:=Lib.hid ha5
 clear ha5
 have hkn:=AnK.new hd.lt hr
 have hbb:=below_box w5 (.cells #[.int .i64 a5.e,.int .u32 0,.int .u64 (a5.rev:Int),.bool a5.whole,.slice A5 n5 c5,.slice B5 p5 q5,.slice C5 r5 s5] 37)
 unfold aval
 go_wp2_with fail
 generalize w5.alloc (.cells #[.int .i64 a5.e,.int .u32 0,.int .u64 (a5.rev:Int),.bool a5.whole,.slice A5 n5 c5,.slice B5 p5 q5,.slice C5 r5 s5] 37)=W5 at hkn hbb ⊢
 have HD5:=Lib.hid (And.intro (hd.then_ hbb) (And.intro (hv2.then_ hbb) hkn))
 clear hd hm hv hr hv2 hkn hbb HC5
 refine (id13_any 2 2 W5).mono ?_
 rintro e V6 ⟨rfl,hv6⟩
 have HB6:=Lib.hid hv6
 clear hv6
 go_wp2_with fail
 have hd6:=HD5.out.1.then_ HB6.out
 have hC6:=undo_any hd6 (x:=2) (y:=2) (by decide) 1 (by decide) 9 (by decide) (by decide) (by rw [Pl.Dc.aw_t.2.2.2.2.1];decide) (by have:=HM5.out;omega)
 clear hd6
 rw [show Pl.Dc.aw5.1.undo 2 2 1 9=Pl.Dc.aw6 from rfl] at hC6
 have HC6:=Lib.hid hC6
 clear hC6
 refine HC6.out.mono ?_
 rintro e w6 ⟨k6,m6,v6,rfl,hd,hm,hv,A6,n6,c6,B6,p6,q6,C6,r6,s6,rfl,hr⟩
 have hv2:=(Mv.of k5 HB6.out).trans hv
 have HM6:=Lib.hid (show m6≤1536 by have:=HM5.out;omega)
 obtain ⟨a6,ha6⟩ : ∃ a,a=Pl.Dc.aw6.2:=⟨_,rfl⟩
 rw [← ha6] at hr ⊢
 have HA6:=Lib.hid ha6
 clear ha6
 have hkn:=AnK.new hd.lt hr
 have hbb:=below_box w6 (.cells #[.int .i64 a6.e,.int .u32 0,.int .u64 (a6.rev:Int),.bool a6.whole,.slice A6 n6 c6,.slice B6 p6 q6,.slice C6 r6 s6] 37)
 unfold aval
 go_wp2_with fail
 generalize w6.alloc (.cells #[.int .i64 a6.e,.int .u32 0,.int .u64 (a6.rev:Int),.bool a6.whole,.slice A6 n6 c6,.slice B6 p6 q6,.slice C6 r6 s6] 37)=W6 at hkn hbb ⊢
 have HD6:=Lib.hid (And.intro (hd.then_ hbb) (And.intro (hv2.then_ hbb) hkn))
 clear hd hm hv hr hv2 hkn hbb HC6
 refine (id13_any 3 1 W6).mono ?_
 rintro e V7 ⟨rfl,hv7⟩
 have HB7:=Lib.hid hv7
 clear hv7
 go_wp2_with fail
 have hd7:=HD6.out.1.then_ HB7.out
 have hC7:=edit_any hd7 (x:=3) (y:=1) (by decide) 0 (by decide) none 0 0 [] (Rws.none_ _ _ _) (Apart.none_ _ _) (by decide) 9 (by decide) (by decide) (by rw [Pl.Dc.aw_t.2.2.2.2.2.1];decide) (by have:=HM6.out;omega)
 clear hd7
 rw [show Pl.Dc.aw6.1.edit 3 1 0 [] 9=Pl.Dc.aw7 from rfl] at hC7
 have HC7:=Lib.hid hC7
 clear hC7
 refine HC7.out.mono ?_
 rintro e w7 ⟨k7,m7,v7,rfl,hd,hm,hv,A7,n7,c7,B7,p7,q7,C7,r7,s7,rfl,hr⟩
 have hv2:=(Mv.of k6 HB7.out).trans hv
 have HM7:=Lib.hid (show m7≤1792 by have:=HM6.out;omega)
 obtain ⟨a7,ha7⟩ : ∃ a,a=Pl.Dc.aw7.2:=⟨_,rfl⟩
 rw [← ha7] at hr ⊢
 have HA7:=Lib.hid ha7
 clear ha7
 have hkn:=AnK.new hd.lt hr
 have hbb:=below_box w7 (.cells #[.int .i64 a7.e,.int .u32 0,.int .u64 (a7.rev:Int),.bool a7.whole,.slice A7 n7 c7,.slice B7 p7 q7,.slice C7 r7 s7] 37)
 have hv7:=hv2.then_ hbb
 have hd7:=hd.then_ hbb
 obtain ⟨Z,hZ⟩ : ∃ Z,Z=w7.alloc (.cells #[.int .i64 a7.e,.int .u32 0,.int .u64 (a7.rev:Int),.bool a7.whole,.slice A7 n7 c7,.slice B7 p7 q7,.slice C7 r7 s7] 37):=⟨_,rfl⟩
 rw [← hZ] at hkn hv7 hd7
 have v6:=HD6.out.2.1.trans hv7
 have v5:=HD5.out.2.1.trans v6
 have v4:=HD4.out.2.1.trans v5
 have v3:=HD3.out.2.1.trans v4
 have v2:=HD2.out.2.1.trans v3
 obtain ⟨_,_,_,_,_,_,_,_,_,g1,_,_⟩:=HD1.out.2.2.mv v2
 obtain ⟨_,_,_,E2,l2,f2,_,_,_,g2,h2,_⟩:=HD2.out.2.2.mv v3
 obtain ⟨_,_,_,_,_,_,_,_,_,g3,_,_⟩:=HD3.out.2.2.mv v4
 obtain ⟨_,_,_,E4,l4,f4,_,_,_,g4,h4,_⟩:=HD4.out.2.2.mv v5
 obtain ⟨_,_,_,E5,l5,f5,_,_,_,g5,h5,_⟩:=HD5.out.2.2.mv v6
 obtain ⟨_,_,_,_,_,_,_,_,_,g6,_,_⟩:=HD6.out.2.2.mv hv7
 obtain ⟨_,_,_,_,_,_,_,_,_,g7,_,_⟩:=hkn
 obtain ⟨x10,_,x12,x13,_⟩:=g1.cells
 obtain ⟨x20,_,x22,_,_,x25,_⟩:=g2.cells
 obtain ⟨_,_,x32,_⟩:=g3.cells
 obtain ⟨_,_,x42,_,_,x45,_⟩:=g4.cells
 obtain ⟨_,_,x52,_,_,x55,_⟩:=g5.cells
 obtain ⟨x60,_⟩:=g6.cells
 obtain ⟨x70,_⟩:=g7.cells
 obtain ⟨L2,hL2,hP2⟩:=h2.ops
 obtain ⟨L4,hL4,hP4⟩:=h4.ops
 obtain ⟨L5,hL5,hP5⟩:=h5.ops
 have hln:∀ (L:List OpV) (P:List Pl.Op),L.map OpV.op=P→L.length=P.length:=fun L P h=>by rw [← h,List.length_map]
 have hgt:∀ (L:List OpV) (P:List Pl.Op) (i:Nat),L.map OpV.op=P→i<L.length→(L.getD i default).op=P.getD i default:=fun L P i h hi=>by
  rw [← h,List.getD_eq_getElem?_getD,List.getD_eq_getElem?_getD,List.getElem?_map,List.getElem?_eq_getElem hi];rfl
 rw [HA1.out,Pl.Dc.aw_1.1] at x10
 rw [HA1.out,Pl.Dc.aw_1.2.1] at x13
 rw [HA1.out,Pl.Dc.aw_1.2.2] at x12
 rw [HA2.out,Pl.Dc.aw_2.1] at x20
 rw [HA2.out,Pl.Dc.aw_2.2.1] at x22
 rw [HA3.out,Pl.Dc.aw_3] at x32
 rw [HA4.out,Pl.Dc.aw_4.1] at x42
 rw [HA5.out,Pl.Dc.aw_5.1] at x52
 rw [HA6.out,Pl.Dc.aw_6] at x60
 rw [HA7.out,Pl.Dc.aw_7.1] at x70
 rw [HA2.out] at hP2
 rw [HA4.out] at hP4
 rw [HA5.out] at hP5
 obtain rfl:l2=1:=by rw [← hL2.1.len,hln _ _ hP2];exact Pl.Dc.aw_2.2.2
 have hl4:L4.length=2:=by rw [hln _ _ hP4];exact Pl.Dc.aw_4.2.1
 have hl5:L5.length=1:=by rw [hln _ _ hP5];exact Pl.Dc.aw_5.2.1
 obtain rfl:l4=2:=by rw [← hL4.1.len,hl4]
 obtain rfl:l5=1:=by rw [← hL5.1.len,hl5]
 obtain ⟨y4,o4,rfl,_,_,hc4⟩:=hL4.at_ (i:=1) (by decide)
 obtain ⟨y5,o5,rfl,_,_,hc5⟩:=hL5.at_ (i:=0) (by decide)
 have z4:=(hc4 1 (by decide)).2.2.1
 have z5:=(hc5 0 (by decide)).2.2.1
 have u4:=hL4.getD_ (i:=1) (by decide)
 have u5:=hL5.getD_ (i:=0) (by decide)
 have e4:=hgt _ _ 1 hP4 (by rw [hl4];decide)
 have e5:=hgt _ _ 0 hP5 (by rw [hl5];decide)
 obtain ⟨⟨ox4,oy4,oA4,on4,oc4,ol4,ob4⟩,ho4⟩ : ∃ o,o=L4.getD 1 default:=⟨_,rfl⟩
 obtain ⟨⟨ox5,oy5,oA5,on5,oc5,ol5,ob5⟩,ho5⟩ : ∃ o,o=L5.getD 0 default:=⟨_,rfl⟩
 rw [← ho4] at z4 u4 e4
 rw [← ho5] at z5 u5 e5
 simp only at z4 u4 z5 u5
 have q4:ol4.length=1∧(ol4.getD 0 default).p=1:=by
  have:=Pl.Dc.aw_4.2.2
  rw [← e4] at this
  exact this
 have q5:ol5.length=1∧(ol5.getD 0 default).k=2∧(ol5.getD 0 default).p=0:=by
  have:=Pl.Dc.aw_5.2.2
  rw [← e5] at this
  exact this
 obtain rfl:on4=1:=by rw [← u4.1.len];exact q4.1
 obtain rfl:on5=1:=by rw [← u5.1.len];exact q5.1
 obtain ⟨i4,j4,rfl,_,hu4⟩:=Uns.at_ u4.1 (i:=0) (by decide)
 obtain ⟨i5,j5,rfl,_,hu5⟩:=Uns.at_ u5.1 (i:=0) (by decide)
 have w41:=(hu4 0 (by decide)).2.1
 have w50:=(hu5 0 (by decide)).1
 have w51:=(hu5 0 (by decide)).2.1
 rw [q4.2] at w41
 rw [q5.2.1] at w50
 rw [q5.2.2] at w51
 simp only [Nat.zero_mul,Nat.one_mul,Nat.add_zero,Nat.add_assoc,Nat.reduceAdd] at z4 z5 w41 w50 w51
 have HT:=Lib.hid (And.intro hd7 (And.intro hv7 hZ))
 have HVV:=Lib.hid (And.intro HD1.out.2.1 v2)
 rw [hZ] at x10 x12 x13 x20 x22 x25 x32 x42 x45 x52 x55 x60 x70 z4 z5 w41 w50 w51
 clear hd hm hv hr hv2 hbb HC7 hv7 hd7 v6 v5 v4 v3 v2 g1 g2 g3 g4 g5 g6 g7 h2 h4 h5 hL2 hP2 hL4 hP4 hL5 hP5 hln hgt hl4 hl5 hc4 hc5 u4 u5 e4 e5 ho4 ho5 q4 q5 hu4 hu5 hZ
 unfold aval
 go_wp2_with fail
 have hbZ:=HVV.out.1.trans HVV.out.2
 have hbz:Below w.heap.size w Z:=hbZ.tn.below HB0.out HB0.out.size (fun b hb=>HD0.out.2 b hb)
 have htx:=HT.out.1.text
 rw [Pl.Dc.aw_7.2,HT.out.2.2] at htx
 rw [HT.out.2.2] at hbz
 have HBZ:=Lib.hid hbz
 clear hbZ hbz x10 x12 x13 x20 x22 x25 x32 x42 x45 x52 x55 x60 x70 z4 z5 w41 w50 w51 HT HVV
 refine htx.mono ?_
 rintro e wt ⟨TA,tc,rfl,ho,hb⟩
 have hbl:=below_box wt (.cells #[.int .i32 98] 41)
 have hcr:Crs (wt.alloc (.cells #[.int .i32 98] 41)) (wt.alloc (.cells #[.int .i32 98] 41)).heap.size (some ⟨wt.heap.size,0,none⟩) 1 1 [98]:=by
  have h0:=heap_alloc_new wt (.cells #[.int .i32 98] 41)
  exact ⟨rfl,Nat.le_refl _,by unfold maxLen;omega,(fun e=>by cases e),(fun z hz=>by rw [List.mem_singleton.1 hz];unfold Pl.J;omega),fun _=>⟨wt.heap.size,0,rfl,lt_of_block h0,fun i hi=>by
   obtain rfl:i=0:=by omega
   exact cell0 (r:=[]) h0⟩⟩
 have hsm:=sameC_any TA (some ⟨wt.heap.size,0,none⟩) 1 tc 1 1 [98] [98] (wt.alloc (.cells #[.int .i32 98] 41)) (ho.crs.2.then_ hbl) hcr
 rw [decide_eq_true rfl] at hsm
 have HSM:=Lib.hid hsm
 have HBT:=Lib.hid (below_then (below_then HBZ.out hb) hbl)
 clear ho hb hbl hcr hsm htx HBZ
 go_wp2_with fail
 refine HSM.out.mono ?_
 rintro e wu ⟨rfl,hb⟩
 have HBU:=Lib.hid (below_then HBT.out hb)
 clear hb HSM
 go_wp2_with fail
 go_ret
 exact ⟨rfl,HBU.out⟩
open Go.RowKit
open Pl (Un)
namespace Pl
namespace Dc
structure St (d:Dc) (P:List Op) (cs:List Int):Prop where
 ok:Ok d
 on:∀ c,c=1∨c=2∨c=3→getM d.L c=some 64
 fr:d.fr=0
 P:d.P=P
 cs:d.cs=cs
variable {d:Dc} {P:List Op} {cs:List Int}
theorem St.core {d':Dc} (h:St d P cs) (c:Core d d') (ho:Ok d') (hl:∀ c,c=1∨c=2∨c=3→getM d'.L c=some 64):St d' P cs:=⟨ho,hl,c.fr.trans h.fr,c.P.trans h.P,c.cs.trans h.cs⟩
theorem St.touch (h:St d P cs):St (d.touched 0) P cs:=h.core (core_touched d 0) (ok_touched h.ok 0) fun c hc=>by
 have hw:=get_drops (whichM false 0 d.L) h.ok.m.low c
 rw [drops_which h.ok.m.low] at hw
 show getM (thereM 0 d.L) c=some 64
 rw [hw,if_neg,h.on c hc]
 intro hin
 obtain ⟨p,hp,rfl⟩:=List.mem_map.1 hin
 have h1:=List.mem_filter.1 hp
 have h2:=h.on _ hc
 rw [get_iff h.ok.m.low] at h2
 have h3:=(get_iff h.ok.m.low).2 h1.1
 rw [(get_iff h.ok.m.low).2 h2] at h3
 have h4:(64:Int)=p.2:=by injection h3
 have h5:=h1.2
 rw [← h4] at h5
 exact absurd h5 (by decide)
theorem St.live (h:St d P cs) {c:Int} (hc:c=1∨c=2∨c=3):liveM d.L c 0=true:=by
 rw [live_some (h.on c hc)];rfl
theorem St.now (h:St d P cs):d.now=P.length:=by unfold Dc.now;rw [h.fr,h.P,Nat.zero_add]
theorem St.renew (h:St d P cs) {c:Int} (hc:c=1∨c=2∨c=3):St (d.renewed c 0) P cs:=by
 have hl:=h.on c hc
 refine h.core (core_renewed d c 0) (ok_renewed h.ok (by rw [hl];simp) (by omega) (by omega) (by omega)) fun x hx=>?_
 show getM (setL d.L c 0).2 x=some 64
 rw [get_setL h.ok.m.low (set_live (h.live hc) (by omega))]
 split
 ·unfold tickM
  rw [hl]
  rfl
 ·exact h.on x hx
theorem bars_fit {row:List Un} (hf:FitR (cleanL row) d.cs) (hl:(leave (cleanL row) d.cs).length≤4096) (hc:d.P.length<256) (hr:d.now<1099511627776):d.bars row=0:=by
 unfold bars
 rw [long_of_fit hf,if_neg (by simp),if_neg (by omega),if_neg (by omega)]
theorem later_now (d:Dc):d.later d.now=[]:=by
 unfold later now
 rw [Nat.add_sub_cancel_left,List.drop_length]
theorem at_on {c:Int} (h:liveM (d.touched 0).L c 0=true) (f:Dc→Dc × An) (he:(f (d.touched 0)).2.e=0):d.at_ c 0 f=((f (d.touched 0)).1.renewed c 0,{ (f (d.touched 0)).2 with rev:=(f (d.touched 0)).1.now }):=by
 unfold at_
 rw [call_on (by omega)]
 simp only [h,if_true,he]
 rfl
theorem St.edit (h:St d P cs) {x y:Int} (hx:x=1∨x=2∨x=3) {row:List Un} (hi:∀ u ∈ row,Okay u∧u.x=x∧u.y=y) (hk:∀ u ∈ row,u.k≠0) (hl:row.length≤256) (hf:FitR row cs) (h4:(leave row cs).length≤4096) (hc:P.length<256) :
  (d.edit x y P.length row 0).2.e=0∧St (d.edit x y P.length row 0).1 (P ++ [⟨x,y,fillL row cs,false⟩]) (leave row cs):=by
 have ht:=h.touch
 have hcl:cleanL row=row:=List.filter_eq_self.2 fun u hu=>by simpa using hk u hu
 have hnow:=ht.now
 have hlater:=later_now (d.touched 0)
 rw [hnow] at hlater
 have hrow:(d.touched 0).editRow P.length row=row:=by unfold editRow;rw [hlater];rfl
 have hb:(d.touched 0).bars row=0:=bars_fit (by rw [hcl,ht.cs];exact hf) (by rw [hcl,ht.cs];exact h4) (by rw [ht.P];exact hc) (by rw [hnow];omega)
 have hlong:(d.touched 0).long P.length=cs.length:=by
  have:=ht.ok.p.len
  rw [ht.cs] at this
  unfold long
  rw [this,ht.fr,Nat.sub_zero,ht.P,List.take_length]
 have he:(d.touched 0).editE x y P.length row=0:=by
  unfold editE
  rw [if_neg (by
   rintro ⟨u,hu,hh⟩
   have:=hi u hu
   rcases hh with hh | hh | hh
   ·exact hh this.1
   ·exact hh this.2.1
   ·exact hh this.2.2)]
  have hp:(place (d.touched 0).fr (d.touched 0).P.length 0 P.length).2=0:=place_zero.2 (by rw [ht.fr,ht.P];omega)
  rw [if_neg (fun hh=>hh hp),if_neg (by omega),hlong,long_of_fit hf,if_neg (by simp),hrow,hb]
 have hbeh:St ((d.touched 0).behind x y row) (P ++ [⟨x,y,fillL row cs,false⟩]) (leave row cs):=by
  refine ⟨ok_behind ht.ok hb hl fun u hu=>(hi u hu).2,ht.on,ht.fr,?_,?_⟩
  ·show (d.touched 0).P ++ [⟨x,y,fillL (cleanL row) (d.touched 0).cs,false⟩]=_
   rw [ht.P,ht.cs,hcl]
  ·show leave (cleanL row) (d.touched 0).cs=_
   rw [ht.cs,hcl]
 unfold Dc.edit
 have hne:¬ (d.touched 0).editE x y P.length row≠0:=fun hh=>hh he
 rw [at_on (ht.live hx) _ (by simp only [if_neg hne])]
 simp only [if_neg hne,hrow]
 exact ⟨trivial,hbeh.renew hx⟩
theorem St.undo (h:St d P cs) {x y:Int} (hx:x=1∨x=2∨x=3) {rev:Nat} (h1:1≤rev) (h2:rev≤P.length) {R:List Un} (hR:backR x y (P.getD (rev - 1) default).l (rowsO (P.drop rev))=R) (ho:(P.getD (rev - 1) default).x=x) (hu:(P.getD (rev - 1) default).b=false)
  (hf:FitR R cs) (h4:(leave R cs).length≤4096) (hc:P.length<256) :
  (d.undo x y rev 0).2.e=0∧St (d.undo x y rev 0).1 ((P ++ [(⟨x,y,fillL R cs,false⟩ : Op)]).set (rev - 1) { (P ++ [(⟨x,y,fillL R cs,false⟩ : Op)]).getD (rev - 1) default with b:=true }) (leave R cs):=by
 have ht:=h.touch
 have hcl:cleanL R=R:=by rw [← hR];exact clean_clean _
 have hop:(d.touched 0).opAt rev=P.getD (rev - 1) default:=by unfold opAt;rw [ht.P,ht.fr,Nat.sub_zero]
 have hrow:(d.touched 0).undoRow x y rev=R:=by unfold undoRow later;rw [hop,ht.P,ht.fr,Nat.sub_zero];exact hR
 have hb:(d.touched 0).bars R=0:=bars_fit (by rw [hcl,ht.cs];exact hf) (by rw [hcl,ht.cs];exact h4) (by rw [ht.P];exact hc) (by rw [ht.now];omega)
 have he:(d.touched 0).undoE x y rev=0:=by
  unfold undoE
  have hp:(place (d.touched 0).fr (d.touched 0).P.length 1 rev).2=0:=place_zero.2 (by rw [ht.fr,ht.P];omega)
  rw [if_neg (by omega),if_neg (fun hh=>hh hp),hop,if_neg (fun hh=>hh ho),hu,if_neg (by decide),hrow,hb]
 have hr:=undo_row ht.ok he
 rw [hrow] at hr
 have hbeh:St (((d.touched 0).behind x y R).mark (rev - 1)) ((P ++ [(⟨x,y,fillL R cs,false⟩ : Op)]).set (rev - 1) { (P ++ [(⟨x,y,fillL R cs,false⟩ : Op)]).getD (rev - 1) default with b:=true }) (leave R cs):=by
  refine ⟨ok_mark (ok_behind ht.ok hb hr.1 hr.2) _,ht.on,ht.fr,?_,?_⟩
  ·show (((d.touched 0).P ++ [(⟨x,y,fillL (cleanL R) (d.touched 0).cs,false⟩ : Op)]).set (rev - 1) { ((d.touched 0).P ++ [(⟨x,y,fillL (cleanL R) (d.touched 0).cs,false⟩ : Op)]).getD (rev - 1) default with b:=true })=_
   rw [ht.P,ht.cs,hcl]
  ·show leave (cleanL R) (d.touched 0).cs=_
   rw [ht.cs,hcl]
 unfold Dc.undo
 have hne:¬ (d.touched 0).undoE x y rev≠0:=fun hh=>hh he
 rw [at_on (ht.live hx) _ (by simp only [if_neg hne])]
 simp only [if_neg hne,hrow]
 rw [ht.fr]
 exact ⟨trivial,hbeh.renew hx⟩
end Dc
end Pl
open Go.RowKit
open Pl (Un)
def FjS (wr:World) (b:Nat) (k p ch q c2 x y:Int) (L:Nat→Bool) (w:World):Prop :=
 UAt w b (if L 13=true then 1 else k) (if L 15=true then q else p) (if L 17=true then c2 else ch) x y∧(L 15=true→L 1=true)∧Tn (fun z=>z=b) wr w
section
variable {wr w:World} {b i:Nat} {k p ch q c2 x y:Int} {L:Nat→Bool}
theorem FjS.pos (h:FjS wr b k p ch q c2 x y L w) (hL:L 1=false):w.cell? ⟨b,1,none⟩=some (.int .i64 p):=by
 have e:L 15=false:=by
  cases e:L 15 with
  | false=>rfl
  | true=>have:=h.2.1 e;rw [hL] at this;cases this
 have:=h.1.cells.2.1
 rw [e] at this
 exact this
theorem FjS.set1 (h:FjS wr b k p ch q c2 x y L w) (h1:L 1=true):FjS wr b k p ch q c2 x y (Rq.up L 15) (w.setCell ⟨b,1,none⟩ (.int .i64 q)):=by
 obtain ⟨g1,g2,g4⟩:=h
 unfold FjS
 rw [rq_same,rq_other (by decide),rq_other (by decide),if_pos rfl]
 exact ⟨blk_set (i:=1) g1 (.int .i64 q),fun _=>rq_keep h1,Tn.set_ (T:=fun z=>z=b) g4 (p:=⟨b,1,none⟩) (Or.inr rfl) _⟩
end
open Go.RowKit
open Pl (Un)
structure DocW (W w:World) (D:Nat) (k:Nat→Nat) (d:Pl.Dc) (M:Nat):Prop where
 at_:∃ m,m≤M∧DocAt w D k d m
 new:∀ b,k b≠0→W.heap.size≤b
 below:Below W.heap.size W w
structure KpU (w:World) (k:Nat→Nat) (A:Option Addr) (n c:Nat) (l:List Un):Prop where
 uns:Uns w w.heap.size A n c l
 off:Apart (fun b=>k b≠0) A n
structure KpC (w:World) (k:Nat→Nat) (A:Option Addr) (n c:Nat) (cs:List Int):Prop where
 crs:Crs w w.heap.size A n c cs
 off:Apart (fun b=>k b≠0) A n
section
variable {W w w':World} {D M m:Nat} {k k':Nat→Nat} {d d':Pl.Dc} {A:Option Addr} {n c:Nat} {l:List Un} {cs:List Int} {v:Value}
theorem DocW.lt (h:DocW W w D k d M):∀ b,k b≠0→b<w.heap.size:=by
 obtain ⟨m,_,h1⟩:=h.at_
 exact h1.lt
theorem DocW.then_ (h:DocW W w D k d M) (hb:Below w.heap.size w w'):DocW W w' D k d M:=by
 obtain ⟨m,h0,h1⟩:=h.at_
 exact ⟨⟨m,h0,h1.then_ hb⟩,h.new,h.below.trans (hb.mono h.below.size)⟩
theorem DocW.more {M':Nat} (h:DocW W w D k d M) (hm:M≤M'):DocW W w D k d M':=by
 obtain ⟨m,h0,h1⟩:=h.at_
 exact ⟨⟨m,Nat.le_trans h0 hm,h1⟩,h.new,h.below⟩
theorem DocW.text (h:DocW W w D k d M):Calls Tryz.prog 24 #[.pointer (some ⟨D,0,none⟩)] w (RetC w d.cs):=by
 obtain ⟨m,h0,h1⟩:=h.at_
 exact h1.text
theorem DocW.mv (h:DocW W w D k d M) (hm:∃ m m',m≤M∧m'≤m + 256∧DocAt w' D k' d' m') (hv:Mv k w k' w'):DocW W w' D k' d' (M + 256):=by
 obtain ⟨m,m',h0,h1,h2⟩:=hm
 refine ⟨⟨m',by omega,h2⟩,fun b hb=>?_,?_⟩
 ·rcases Nat.lt_or_ge b w.heap.size with hlt | hge
  ·rw [hv.eq b hlt] at hb;exact h.new b hb
  ·exact Nat.le_trans h.below.size hge
 ·exact hv.tn.below h.below h.below.size fun b hb=>h.new b hb
theorem KpU.then_ (h:KpU w k A n c l) (hb:Below w.heap.size w w'):KpU w' k A n c l:=⟨Rws.then_ h.uns hb,h.off⟩
theorem KpU.mv (h:KpU w k A n c l) (hv:Mv k w k' w'):KpU w' k' A n c l :=
 ⟨Rws.tn h.uns hv.tn h.off,fun h0 ad e hn=>by
  have hlt:ad.block<w.heap.size:=Rws.in_ h.uns h0 ad e
  replace hn:k' ad.block≠0:=hn
  rw [hv.eq _ hlt] at hn
  exact h.off h0 ad e hn⟩
theorem KpC.then_ (h:KpC w k A n c cs) (hb:Below w.heap.size w w'):KpC w' k A n c cs:=⟨h.crs.then_ hb,h.off⟩
theorem KpC.mv (h:KpC w k A n c cs) (hv:Mv k w k' w'):KpC w' k' A n c cs:=by
 have h1:=h.crs
 refine ⟨⟨h1.1,h1.2.1,h1.2.2.1,h1.2.2.2.1,h1.2.2.2.2.1,fun hn=>?_⟩,fun h0 ad e hn=>?_⟩
 ·obtain ⟨g,o,e,hg,hc⟩:=h1.2.2.2.2.2 hn
  exact ⟨g,o,e,Nat.lt_of_lt_of_le hg hv.tn.size,fun i hi=>(hv.tn.cell (p:=⟨g,o + i,none⟩) hg (h.off hn ⟨g,o,none⟩ e)).trans (hc i hi)⟩
 ·obtain ⟨g,o,e2,hg,_⟩:=h1.2.2.2.2.2 h0
  rw [e] at e2;cases e2
  replace hn:k' g≠0:=hn
  rw [hv.eq _ hg] at hn
  exact h.off h0 _ e hn
theorem off_new {B:Nat} (hk:∀ b,k b≠0→b<B) (h:∀ g,Value.ownBlock (.slice A n c)=some g→B≤g) (hA:∀ ad,A=some ad→Value.ownBlock (.slice A n c)=some ad.block):Apart (fun b=>k b≠0) A n:=fun _ ad e hn=>by
 have h1:=h _ (hA ad e)
 have h2:=hk _ hn
 omega
theorem KpU.new {B:Nat} (hk:∀ b,k b≠0→b<B) (ho:OwnU w B (.slice A n c) l):KpU w k A n c l :=
 ⟨OwnU.uns ho,off_new hk (fun g hg=>(ho.lt g hg).1) fun ad e=>by subst e;rfl⟩
theorem KpC.new {B:Nat} (hk:∀ b,k b≠0→b<B) (ho:OwnC w B (.slice A n c) cs):KpC w k A n c cs :=
 ⟨ho.crs.2,off_new hk (fun g hg=>(ho.lt g hg).1) fun ad e=>by subst e;rfl⟩
end
def KpX (w:World) (b:Nat) (e:Int):Prop:=w.cell? ⟨b,0,none⟩=some (.int .i64 e)∧b<w.heap.size
theorem KpX.then_ {w w':World} {b:Nat} {e:Int} (h:KpX w b e) (hb:Below w.heap.size w w'):KpX w' b e:=⟨(hb.cell (p:=⟨b,0,none⟩) h.2).trans h.1,Nat.lt_of_lt_of_le h.2 hb.size⟩
theorem KpX.new (w:World) (e:Int) (r:List Value) (t:TypeId):KpX (w.alloc (.cells (.int .i64 e :: r).toArray t)) w.heap.size e:=⟨cell0 (heap_alloc_new w _),by simp⟩
end Go.Proofs.YtlgdcelgkiipaaaGreat
