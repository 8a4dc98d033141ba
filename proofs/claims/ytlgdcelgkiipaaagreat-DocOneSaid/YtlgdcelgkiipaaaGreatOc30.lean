/-
  Contracts of piece's Insert and Delete. Conditions: the table is one, or none; the buffers have at most 2^30 code points.
  Contracts of piece's Delete, Read (with its closure), Text, Pieces. Conditions: the table is one, or none; the buffers have at most 2^30 code points.
  Contracts of piece's Read, Text, Pieces, Flatten. Conditions: the table is one, or none; the buffers have at most 2^30 code points.
  Contracts of piece's Flatten and Copy. Conditions: the table is one, or none; the buffers have at most 2^30 code points.
-/
import Derived.Test.YtlgdcelgkiipaaaGreatOc29
set_option maxRecDepth 100000
set_option linter.unusedVariables false
namespace Go.Proofs.YtlgdcelgkiipaaaGreat.Tbl
open Go.RowKit
open Tp (Pc Plc Tab)
def Tp.insT (t:Tab) (pos:Int) (l:List Int):Tab:=if Tp.reachE t.L.length pos 0=0 then t.ins pos.toNat l else t
def Tp.delT (t:Tab) (pos n:Int):Tab:=if Tp.reachE t.L.length pos n=0 then t.del pos.toNat n.toNat else t
theorem Tp.reach_ok {len:Nat} {pos n:Int} (h:Tp.reachE len pos n=0):0≤pos∧0≤n∧n≤(len:Int) - pos:=by
 unfold Tp.reachE at h
 split at h
 ·cases h
 ·omega
theorem Tp.reach_cases (len:Nat) (pos n:Int):Tp.reachE len pos n=0∨Tp.reachE len pos n=30:=by
 unfold Tp.reachE;split <;> simp
theorem Tp.ins_nil (t:Tab) (k:Nat):t.ins k []=t:=by
 show (⟨t.fst,t.snd ++ [],t.L.take k ++ Tp.places ⟨true,t.snd.length,0⟩ ++ t.L.drop k⟩ : Tab)=t
 rw [List.append_nil,show Tp.places ⟨true,t.snd.length,0⟩=[] from rfl,List.append_nil,List.take_append_drop]
theorem Tp.del_zero (t:Tab) (k:Nat):t.del k 0=t:=by
 show (⟨t.fst,t.snd,t.L.take k ++ t.L.drop (k + 0)⟩ : Tab)=t
 rw [Nat.add_zero,List.take_append_drop]
theorem Did.same {w w':World} {F:Nat→Prop} {p:Nat} {t:Tab} {m k:Nat} (h:Tb w F p t m) (hb:Below w.heap.size w w') (hk:m≤k) (hk2:k≤1073741824):Did w F p t k w' :=
 ⟨F,(h.then_ hb).mono hk hk2,Tn.of F hb,fun _ hb=>Or.inl hb,fun _ hb=>hb⟩
theorem Did.after {w w1 w2:World} {F F1:Nat→Prop} {p:Nat} {t:Tab} {m:Nat} (ht:Tn F w w1) (hF:∀ b,F1 b→F b∨w.heap.size≤b) (hF2:∀ b,F b→F1 b) (h:Did w1 F1 p t m w2):Did w F p t m w2:=by
 obtain ⟨F2,h1,h2,h3,h4⟩:=h
 have hz:=ht.size
 refine ⟨F2,h1,ht.trans h2 (fun b hb h=>(hF b h).elim id (fun h=>by omega)),fun b hb=>(h3 b hb).elim (fun h=>hF b h) (fun h=>Or.inr (by omega)),fun b hb=>h4 b (hF2 b hb)⟩
theorem callIns (args:Array Value) (w:World):(callFunc 239 args).run Tryz.prog w=.ok (.enter 239 args) w:=by simp [go_sem]
theorem callDel (args:Array Value) (w:World):(callFunc 240 args).run Tryz.prog w=.ok (.enter 240 args) w:=by simp [go_sem]
theorem renew_ins {w:World} {F:Nat→Prop} {p:Nat} {t:Tab} {m:Nat} {l:List Int} {k n bt bp bc:Nat} (h:Tb w F p (t.grow l) (m + n)) (hok:t.Ok m) (hl:l.length=n) (hn:1≤n) (hk:k≤t.L.length)
  (h1:w.heap[bt]?=some (.cells #[.pointer (some ⟨p,0,none⟩)] 83 (0,0))) (h2:w.heap[bp]?=some (.cells #[.int .i64 (k:Int)] 3 (0,0))) (h3:w.heap[bc]?=some (.cells #[.bool true,.int .i64 ((t.snd.length:Nat):Int),.int .i64 (n:Int)] 183 (0,0))) :
  Calls Tryz.prog 238 #[.pointer (some ⟨p,0,none⟩),.func (.func 239) #[] #[.pointer (some ⟨bt,0,none⟩),.pointer (some ⟨bp,0,none⟩),.pointer (some ⟨bc,0,none⟩)]] w fun e w'=>e=.returned (.tuple #[])∧Did w F p (t.ins k l) (m + n) w':=by
 have hin:=hok.ins k l hk
 rw [hl] at hin
 have hm:=h.le
 have hs:=hok.2.2
 refine renew_any h 239 #[.pointer (some ⟨bt,0,none⟩),.pointer (some ⟨bp,0,none⟩),.pointer (some ⟨bc,0,none⟩)] (t.ins k l).L hin callIns ?_
 intro N G w1 hb hJ
 refine (insClos (h.then_ hb) w.heap.size N bt bp bc k G ⟨true,t.snd.length,n⟩ (fun b hb=>h.lt b hb) hb.size hJ hk (by simp only;omega) (below_old hb h1 (lt_of_block h1)) (below_old hb h2 (lt_of_block h2)) (below_old hb h3 (lt_of_block h3)) (lt_of_block h1) (lt_of_block h2) (lt_of_block h3)).mono fun e w2 hL=>?_
 obtain ⟨e1,e2,G',hJ',hG'⟩:=hL
 refine ⟨e1,e2,G',?_,hG'⟩
 unfold JF at hJ'
 have:=Tp.ins_group t k l (by omega)
 rw [hl] at this
 rw [← this]
 exact hJ'
theorem renew_del {w:World} {F:Nat→Prop} {p:Nat} {t:Tab} {m k n bt bp bn:Nat} (h:Tb w F p t m) (hk:k + n≤t.L.length)
  (h1:w.heap[bt]?=some (.cells #[.pointer (some ⟨p,0,none⟩)] 83 (0,0))) (h2:w.heap[bp]?=some (.cells #[.int .i64 (k:Int)] 3 (0,0))) (h3:w.heap[bn]?=some (.cells #[.int .i64 (n:Int)] 3 (0,0))) :
  Calls Tryz.prog 238 #[.pointer (some ⟨p,0,none⟩),.func (.func 240) #[] #[.pointer (some ⟨bt,0,none⟩),.pointer (some ⟨bp,0,none⟩),.pointer (some ⟨bn,0,none⟩)]] w fun e w'=>e=.returned (.tuple #[])∧Did w F p (t.del k n) m w':=by
 have hin:=h.ok.del k n
 refine renew_any h 240 #[.pointer (some ⟨bt,0,none⟩),.pointer (some ⟨bp,0,none⟩),.pointer (some ⟨bn,0,none⟩)] (t.del k n).L hin callDel ?_
 intro N G w1 hb hJ
 refine (delClos (h.then_ hb) w.heap.size N bt bp bn k n G (fun b hb=>h.lt b hb) hb.size hJ hk (below_old hb h1 (lt_of_block h1)) (below_old hb h2 (lt_of_block h2)) (below_old hb h3 (lt_of_block h3)) (lt_of_block h1) (lt_of_block h2) (lt_of_block h3)).mono fun e w2 hL=>?_
 obtain ⟨e1,e2,G',hJ',hG'⟩:=hL
 refine ⟨e1,e2,G',?_,hG'⟩
 unfold JF at hJ'
 rw [← Tp.del_group t k n]
 exact hJ'
set_option maxHeartbeats 1000000 in
theorem ins_tb {w:World} {F:Nat→Prop} {p:Nat} {t:Tab} {m:Nat} (h:Tb w F p t m) (pos:Int) (hpos:Tp.I pos) (A:Option Addr) (n c:Nat) (l:List Int) (hl:Crs w w.heap.size A n c l) (hm2:m + n≤1073741824) :
  Calls Tryz.prog 211 #[.pointer (some ⟨p,0,none⟩),.int .i64 pos,.slice A n c] w fun e w'=>e=.returned (.int .i64 (Tp.reachE t.L.length pos 0))∧Did w F p (Tp.insT t pos l) (m + n) w':=by
 obtain ⟨W,hW⟩ : ∃ W,W=(w.alloc (.cells #[.pointer (some ⟨p,0,none⟩)] 83)).alloc (.cells #[.int .i64 pos] 3):=⟨_,rfl⟩
 have hb:Below w.heap.size w W:=by rw [hW];exact below_alloc (below_alloc (Below.refl _ w) _) _
 have hzW:W.heap.size=w.heap.size + 2:=by rw [hW];simp
 have k1:W.heap[w.heap.size]?=some (.cells #[.pointer (some ⟨p,0,none⟩)] 83 (0,0)):=by rw [hW,Below.heap_alloc _ _ _ (by simp)];exact heap_alloc_new w _
 have k2:W.heap[w.heap.size + 1]?=some (.cells #[.int .i64 pos] 3 (0,0)):=by rw [hW];exact heap_new (by simp)
 have hT:=h.then_ hb
 have HR:=Lib.hid (reach_tb hT pos 0 hpos)
 have HW:=Lib.hid (And.intro hW (And.intro hb (And.intro hzW (And.intro k1 k2))))
 have HTB:=Lib.hid h
 have HT:=Lib.hid hT
 have HL:=Lib.hid hl
 have hnl:=hl.len
 have hlen:=h.ok.len
 have hm:=h.le
 obtain ⟨R,hR⟩ : ∃ R,R=Tp.reachE t.L.length pos 0:=⟨_,rfl⟩
 rw [← hR] at HR ⊢
 have HRE:=Lib.hid hR
 rcases Tp.reach_cases t.L.length pos 0 with h0 | h0
 ·have hin:Tp.insT t pos l=t.ins pos.toNat l:=by unfold Tp.insT;rw [if_pos h0]
  rw [hin]
  have hr:=Tp.reach_ok h0
  rw [← hR] at h0
  subst h0
  obtain ⟨k,rfl⟩ : ∃ k:Nat,pos=(k:Int):=⟨pos.toNat,by omega⟩
  have HK:=Lib.hid (show k≤t.L.length by omega)
  rw [Int.toNat_natCast]
  clear hr hin hR hW hb hzW k1 k2 hT h hl hlen hpos
  by_cases hn0:n=0
  ·subst hn0
   have HLN:=Lib.hid (List.eq_nil_of_length_eq_zero hnl)
   clear hnl
   go_enter Tryz.func211,Tryz.ntmps211
   go_wp2_with fail
   rw [← HW.out.1]
   refine HR.out.mono ?_
   rintro e w2 ⟨rfl,hb2⟩
   have HD:=Lib.hid (show Did w F p (t.ins k l) (m + 0) w2 by
    rw [HLN.out,Tp.ins_nil]
    exact Did.same HTB.out (below_then HW.out.2.1 hb2) (by omega) (by omega))
   clear hb2
   go_wp2_with fail
   go_ret
   exact ⟨rfl,HD.out⟩
  ·have hn1:¬ ((n:Int)=0):=by omega
   have HN:=Lib.hid (And.intro hnl (show 1≤n by omega))
   clear hnl hn0
   go_enter Tryz.func211,Tryz.ntmps211
   go_wp2_with fail
   rw [← HW.out.1]
   refine HR.out.mono ?_
   rintro e w2 ⟨rfl,hb2⟩
   have hb02:=below_then HW.out.2.1 hb2
   have HA:=Lib.hid (add_tb (HT.out.then_ hb2) A n c l (HL.out.then_ hb02) hm2)
   rw [aggP_eq] at HA
   have q1:=below_old hb2 HW.out.2.2.2.1 (lt_of_block HW.out.2.2.2.1)
   have q2:=below_old hb2 HW.out.2.2.2.2 (lt_of_block HW.out.2.2.2.2)
   have d1:=cell0 q1
   have HQ:=Lib.hid (And.intro q1 (And.intro q2 hb02))
   clear hb2 hb02 q1 q2 HR
   go_wp2_with fail
   refine HA.out.mono ?_
   rintro e w3 ⟨rfl,F3,hT3,ht3,hF3,hF3'⟩
   have hnF:∀ b,w.heap.size≤b→¬ F b:=fun b hb h=>by have:=HTB.out.lt b h;omega
   have q1:=ht3.old HQ.out.1 (hnF _ (Nat.le_refl _))
   have q2:=ht3.old HQ.out.2.1 (hnF _ (by omega))
   obtain ⟨V,hV⟩ : ∃ V,V=w3.alloc (.cells #[.bool true,.int .i64 ((t.snd.length:Nat):Int),.int .i64 (n:Int)] 183):=⟨_,rfl⟩
   have hbV:Below w3.heap.size w3 V:=by rw [hV];exact (Below.refl _ _).alloc (Nat.le_refl _) _
   have hT4:=hT3.then_ hbV
   have HRN:=Lib.hid (renew_ins hT4 HTB.out.ok HN.out.1 HN.out.2 HK.out (below_old hbV q1 (lt_of_block q1)) (below_old hbV q2 (lt_of_block q2)) (by rw [hV];exact heap_alloc_new w3 _))
   have d2:V.cell? ⟨w.heap.size,0,none⟩=some (.pointer (some ⟨p,0,none⟩)):=cell0 (below_old hbV q1 (lt_of_block q1))
   have HV:=Lib.hid hV
   have HTT:=Lib.hid (show Tn F w V∧(∀ b,F3 b→F b∨w.heap.size≤b)∧∀ b,F b→F3 b from
    ⟨((Tn.of F HQ.out.2.2).trans ht3 (fun b h1 h2=>h2)).trans (Tn.of F hbV) (fun b h1 h2=>h2),fun b hb=>(hF3 b hb).elim Or.inl (fun h=>Or.inr (by have:=HQ.out.2.2.size;omega)),hF3'⟩)
   rw [hV] at d2
   clear hT3 ht3 hF3 hF3' hnF q1 q2 hV hbV hT4 HA d1
   go_wp2_with fail
   rw [← HV.out]
   refine HRN.out.mono ?_
   rintro e w5 ⟨rfl,hD5⟩
   have HD:=Lib.hid (Did.after HTT.out.1 HTT.out.2.1 HTT.out.2.2 hD5)
   clear hD5 HRN
   go_wp2_with fail
   go_ret
   exact ⟨rfl,HD.out⟩
 ·have hin:Tp.insT t pos l=t:=by unfold Tp.insT;rw [if_neg (by rw [h0];decide)]
  rw [hin]
  rw [← hR] at h0
  subst h0
  clear hin hR hW hb hzW k1 k2 hT h hl hlen hpos hnl
  go_enter Tryz.func211,Tryz.ntmps211
  go_wp2_with fail
  rw [← HW.out.1]
  refine HR.out.mono ?_
  rintro e w2 ⟨rfl,hb2⟩
  have HD:=Lib.hid (Did.same HTB.out (below_then HW.out.2.1 hb2) (show m≤m + n by omega) hm2)
  clear hb2
  go_wp2_with fail
  go_ret
  exact ⟨rfl,HD.out⟩
open Go.RowKit
open Tp (Pc Plc Tab)
set_option maxHeartbeats 1000000 in
theorem del_tb {w:World} {F:Nat→Prop} {p:Nat} {t:Tab} {m:Nat} (h:Tb w F p t m) (pos n:Int) (hpos:Tp.I pos) :
  Calls Tryz.prog 212 #[.pointer (some ⟨p,0,none⟩),.int .i64 pos,.int .i64 n] w fun e w'=>e=.returned (.int .i64 (Tp.reachE t.L.length pos n))∧Did w F p (Tp.delT t pos n) m w':=by
 obtain ⟨W,hW⟩ : ∃ W,W=((w.alloc (.cells #[.pointer (some ⟨p,0,none⟩)] 83)).alloc (.cells #[.int .i64 pos] 3)).alloc (.cells #[.int .i64 n] 3):=⟨_,rfl⟩
 have hb:Below w.heap.size w W:=by rw [hW];exact below_alloc (below_alloc (below_alloc (Below.refl _ w) _) _) _
 have k1:W.heap[w.heap.size]?=some (.cells #[.pointer (some ⟨p,0,none⟩)] 83 (0,0)):=by rw [hW,Below.heap_alloc _ _ _ (by simp;omega),Below.heap_alloc _ _ _ (by simp)];exact heap_alloc_new w _
 have k2:W.heap[w.heap.size + 1]?=some (.cells #[.int .i64 pos] 3 (0,0)):=by rw [hW,Below.heap_alloc _ _ _ (by simp)];exact heap_new (by simp)
 have k3:W.heap[w.heap.size + 2]?=some (.cells #[.int .i64 n] 3 (0,0)):=by rw [hW];exact heap_new (by simp)
 have hT:=h.then_ hb
 have HR:=Lib.hid (reach_tb hT pos n hpos)
 have HW:=Lib.hid (And.intro hW (And.intro hb (And.intro k1 (And.intro k2 k3))))
 have HTB:=Lib.hid h
 have HT:=Lib.hid hT
 have hlen:=h.ok.len
 have hm:=h.le
 obtain ⟨R,hR⟩ : ∃ R,R=Tp.reachE t.L.length pos n:=⟨_,rfl⟩
 rw [← hR] at HR ⊢
 rcases Tp.reach_cases t.L.length pos n with h0 | h0
 ·have hin:Tp.delT t pos n=t.del pos.toNat n.toNat:=by unfold Tp.delT;rw [if_pos h0]
  rw [hin]
  have hr:=Tp.reach_ok h0
  rw [← hR] at h0
  subst h0
  obtain ⟨k,rfl⟩ : ∃ k:Nat,pos=(k:Int):=⟨pos.toNat,by omega⟩
  obtain ⟨n,rfl⟩ : ∃ k:Nat,n=(k:Int):=⟨n.toNat,by omega⟩
  have HK:=Lib.hid (show k + n≤t.L.length by omega)
  rw [Int.toNat_natCast,Int.toNat_natCast]
  clear hr hin hR hW hb k1 k2 k3 hT h hlen hpos
  by_cases hn0:n=0
  ·subst hn0
   go_enter Tryz.func212,Tryz.ntmps212
   have HW2:=Lib.hid HW.out.1
   have g3:=cell0 HW.out.2.2.2.2
   go_wp2_with fail
   rw [← (show W=((w.alloc (.cells #[.pointer (some ⟨p,0,none⟩)] 83)).alloc (.cells #[.int .i64 (k:Int)] 3)).alloc (.cells #[.int .i64 0] 3) from HW2.out)]
   refine HR.out.mono ?_
   rintro e w2 ⟨rfl,hb2⟩
   have q3:=below_old hb2 HW.out.2.2.2.2 (lt_of_block HW.out.2.2.2.2)
   have d3:=cell0 q3
   have HD:=Lib.hid (show Did w F p (t.del k 0) m w2 by
    rw [Tp.del_zero]
    exact Did.same HTB.out (below_then HW.out.2.1 hb2) (Nat.le_refl _) hm)
   clear hb2 q3 g3
   go_wp2_with fail
   go_ret
   exact ⟨rfl,HD.out⟩
  ·have hn1:¬ ((n:Int)=0):=by omega
   go_enter Tryz.func212,Tryz.ntmps212
   go_wp2_with fail
   rw [← HW.out.1]
   refine HR.out.mono ?_
   rintro e w2 ⟨rfl,hb2⟩
   have q1:=below_old hb2 HW.out.2.2.1 (lt_of_block HW.out.2.2.1)
   have q2:=below_old hb2 HW.out.2.2.2.1 (lt_of_block HW.out.2.2.2.1)
   have q3:=below_old hb2 HW.out.2.2.2.2 (lt_of_block HW.out.2.2.2.2)
   have d1:=cell0 q1
   have d3:=cell0 q3
   have HRN:=Lib.hid (renew_del (HT.out.then_ hb2) HK.out q1 q2 q3)
   have HB2:=Lib.hid (below_then HW.out.2.1 hb2)
   clear hb2 q1 q2 q3 HR
   go_wp2_with fail
   refine HRN.out.mono ?_
   rintro e w5 ⟨rfl,hD5⟩
   have HD:=Lib.hid (Did.after (Tn.of F HB2.out) (fun _ hb=>Or.inl hb) (fun _ hb=>hb) hD5)
   clear hD5 HRN
   go_wp2_with fail
   go_ret
   exact ⟨rfl,HD.out⟩
 ·have hin:Tp.delT t pos n=t:=by unfold Tp.delT;rw [if_neg (by rw [h0];decide)]
  rw [hin]
  rw [← hR] at h0
  subst h0
  clear hin hR hW hb k1 k2 k3 hT h hlen hpos
  go_enter Tryz.func212,Tryz.ntmps212
  go_wp2_with fail
  rw [← HW.out.1]
  refine HR.out.mono ?_
  rintro e w2 ⟨rfl,hb2⟩
  have HD:=Lib.hid (Did.same HTB.out (below_then HW.out.2.1 hb2) (Nat.le_refl m) hm)
  clear hb2
  go_wp2_with fail
  go_ret
  exact ⟨rfl,HD.out⟩
def JR (t:Tab) (base N:Nat) (G:Nat→Prop) (acc:List Pc) (w:World):Prop :=
 ∃ A c,w.heap[N]?=some (.cells #[.slice A (acc.flatMap t.str).length c] 33 (0,0))∧OwnC w base (.slice A (acc.flatMap t.str).length c) (acc.flatMap t.str)∧(∀ g,Value.ownBlock (.slice A (acc.flatMap t.str).length c)=some g→G g∧g≠N)∧(G N∧∀ b,G b→base≤b∧b<w.heap.size)
theorem jr_keeps (t:Tab) (base N:Nat):Keeps base (JR t base N):=by
 refine ⟨fun G acc w1 w2 h hb=>?_,fun G acc w1 h=>?_⟩
 ·obtain ⟨A,c,h1,h2,h3,h4⟩:=h
  exact ⟨A,c,below_old hb h1 (lt_of_block h1),h2.below hb (fun g hg=>(h2.lt g hg).2),h3,h4.1,fun b hG=>⟨(h4.2 b hG).1,Nat.lt_of_lt_of_le (h4.2 b hG).2 hb.size⟩⟩
 ·obtain ⟨A,c,h1,h2,h3,h4⟩:=h
  exact h4.2
theorem jr_append {t:Tab} {base N k n:Nat} {G:Nat→Prop} {acc2:List Pc} {X Y:List Int} {w wS w4:World} {A A4:Option Addr} {c c4:Nat} (hX:acc2.flatMap t.str=X ++ Y) (hk:X.length=k) (hn:Y.length=n) (hb:Below w.heap.size w wS)
  (h1:wS.heap[N]?=some (.cells #[.slice A k c] 33 (0,0))) (h3:∀ g,Value.ownBlock (.slice A k c)=some g→G g∧g≠N) (h4:G N∧∀ b,G b→base≤b∧b<w.heap.size) (hbase:base≤w.heap.size)
  (hO:OwnC w4 base (.slice A4 (k + n) c4) (X ++ Y)) (hg:wS.grownBy w4 (Value.ownBlock (.slice A k c)))
  (hat:Value.ownBlock (.slice A4 (k + n) c4)=Value.ownBlock (.slice A k c)∨Value.ownBlock (.slice A4 (k + n) c4)=some wS.heap.size) :
  Tn G w (w4.setCell ⟨N,0,none⟩ (.slice A4 (k + n) c4))∧∃ G',JR t base N G' acc2 (w4.setCell ⟨N,0,none⟩ (.slice A4 (k + n) c4))∧∀ b,G' b→G b∨w.heap.size≤b:=by
 have hz:=hb.size
 have hN:=lt_of_block h1
 have p4:w4.heap[N]?=some (.cells #[.slice A k c] 33 (0,0)):=(hg.block N hN (fun e=>(h3 N e.symm).2 rfl)).trans h1
 have hl:(acc2.flatMap t.str).length=k + n:=by rw [hX,List.length_append,hk,hn]
 have hne:∀ g,Value.ownBlock (.slice A4 (k + n) c4)=some g→(G g∨w.heap.size≤g)∧g≠N∧g<w4.heap.size:=fun g e=>by
  have hlt:=(hO.lt g e).2
  rcases hat with h | h
  ·rw [h] at e;exact ⟨Or.inl (h3 g e).1,(h3 g e).2,hlt⟩
  ·rw [h] at e
   have e2:wS.heap.size=g:=Option.some.inj e
   exact ⟨Or.inr (by omega),by omega,hlt⟩
 have hT:Tn G w (w4.setCell ⟨N,0,none⟩ (.slice A4 (k + n) c4)):=((Tn.of G hb).grown hg (fun j e=>Or.inr (h3 j e).1)).set_ (p:=⟨N,0,none⟩) (Or.inr h4.1) _
 have pz:(w4.setCell ⟨N,0,none⟩ (.slice A4 (k + n) c4)).heap[N]?=some (.cells #[.slice A4 (k + n) c4] 33 (0,0)):=by rw [blk_set p4];rfl
 have hfar:∀ b,b≠N→(w4.setCell ⟨N,0,none⟩ (.slice A4 (k + n) c4)).heap[b]?=w4.heap[b]?:=fun b e=>blk_keep _ e
 have hsz:(w4.setCell ⟨N,0,none⟩ (.slice A4 (k + n) c4)).heap.size=w4.heap.size:=by simp [World.setCell]
 have hg4:=hg.size
 revert hT pz hfar hsz
 generalize w4.setCell ⟨N,0,none⟩ (.slice A4 (k + n) c4)=Z
 intro hT pz hfar hsz
 refine ⟨hT,fun b=>(G b∨w.heap.size≤b)∧b<Z.heap.size,⟨A4,c4,?_,?_,?_,⟨⟨Or.inl h4.1,lt_of_block pz⟩,fun b hb=>?_⟩⟩,fun b hb=>hb.1⟩
 ·rw [hl];exact pz
 ·rw [hl,hX];exact hO.same fun g _ _ e=>hfar g (hne g e).2.1
 ·rw [hl];exact fun g e=>⟨⟨(hne g e).1,by rw [hsz];exact (hne g e).2.2⟩,(hne g e).2.1⟩
 ·refine ⟨?_,hb.2⟩
  rcases hb.1 with h | h
  ·exact (h4.2 b h).1
  ·omega
set_option maxHeartbeats 1000000 in
theorem readClos {w:World} {F:Nat→Prop} {p:Nat} {t:Tab} {m:Nat} (h:Tb w F p t m) (base N bt:Nat) (G:Nat→Prop) (acc:List Pc) (x:Pc) (hJ:JR t base N G acc w) (hx:x.at_ + x.len≤(t.buf x.s).length) (hl:(acc.flatMap t.str).length + x.len≤1073741824)
  (h1:w.heap[bt]?=some (.cells #[.pointer (some ⟨p,0,none⟩)] 83 (0,0))) (hbt:bt<base) (hbase:base≤w.heap.size) :
  Calls Tryz.prog 226 #[aggP x,.pointer (some ⟨N,0,none⟩),.pointer (some ⟨bt,0,none⟩)] w (Left (JR t base N) G (acc ++ [x]) w):=by
 obtain ⟨A,c,j1,j2,j3,j4⟩:=hJ
 obtain ⟨X,hX⟩ : ∃ X,X=acc.flatMap t.str:=⟨_,rfl⟩
 have hstr:(t.str x).length=x.len:=by unfold Tab.str;rw [List.length_take,List.length_drop];omega
 have HAC:=Lib.hid (show (acc ++ [x]).flatMap t.str=X ++ t.str x by rw [hX,List.flatMap_append];simp)
 rw [← hX] at j1 j2 j3 hl
 obtain ⟨k,hk⟩ : ∃ k,k=X.length:=⟨_,rfl⟩
 rw [← hk] at j1 j2 j3 hl
 obtain ⟨W,hW⟩ : ∃ W,W=w.alloc (.cells #[.bool x.s,.int .i64 (x.at_:Int),.int .i64 (x.len:Int)] 183):=⟨_,rfl⟩
 have hb:Below w.heap.size w W:=by rw [hW];exact below_alloc (Below.refl _ w) _
 have hzW:W.heap.size=w.heap.size + 1:=by rw [hW];simp
 have pb:W.heap[w.heap.size]?=some (.cells #[.bool x.s,.int .i64 (x.at_:Int),.int .i64 (x.len:Int)] 183 (0,0)):=by rw [hW];exact heap_alloc_new w _
 have pn:=below_old hb j1 (lt_of_block j1)
 have pt:=below_old hb h1 (lt_of_block h1)
 have HS:=Lib.hid (stretch_tb (h.then_ (hb.drew)) x hx)
 rw [aggP_eq] at HS
 have d0:=cell0 pb
 have d1:=cell1 pb
 have d2:=cell2 pb
 have n0:=cell0 pn
 have t0:=cell0 pt
 have HB:=Lib.hid (And.intro hb (And.intro hzW (And.intro (lt_of_block j1) (And.intro hbt hbase))))
 have HJ:=Lib.hid (And.intro pn (And.intro (j2.below hb (fun g hg=>(j2.lt g hg).2)) (And.intro j3 j4)))
 have HW:=Lib.hid hW
 have HKX:=Lib.hid (And.intro hk hstr)
 clear hb hzW pb pn pt j1 j2 j3 j4 h1 h hx hW hX hk hstr hbt hbase
 rw [aggP_eq]
 go_enter Tryz.func226,Tryz.ntmps226
 go_wp2_with fail
 rw [← HW.out]
 have HOS:=Lib.hid (fun wS (hbS:Below W.drew.heap.size W.drew wS)=>show OwnC wS base (.slice A k c) X from OwnC.below HJ.out.2.1 (below_drew hbS) (fun g hg=>(HJ.out.2.1.lt g hg).2))
 have HSZ:=Lib.hid (fun wS (hbS:Below W.drew.heap.size W.drew wS)=>show base≤wS.heap.size from Nat.le_trans HB.out.2.2.2.2 (Nat.le_trans HB.out.1.size hbS.size))
 have HNS:=Lib.hid (fun wS (hbS:Below W.drew.heap.size W.drew wS)=>below_old (below_drew hbS) HJ.out.1 (lt_of_block HJ.out.1))
 have HN4:=Lib.hid (fun wS w4 (hbS:Below W.drew.heap.size W.drew wS) (hg:wS.grownBy w4 (Value.ownBlock (.slice A k c)))=>show w4.heap[N]?=_ from (hg.block N (lt_of_block (HNS.out wS hbS)) (fun e=>(HJ.out.2.2.1 N e.symm).2 rfl)).trans (HNS.out wS hbS))
 go_region_law (first
  | (refine step_append_crs wS (by rfl) (.tmp 4) (.tmp 7) (by rfl) base A k c X (by rfl) (HOS.out wS hbS) _ A' x.len x.len (t.str x) (by rfl) hC (by omega) (HSZ.out wS hbS) ?_;intro A4 c4 w4 hO4 hg4 hat4;have p4:=HN4.out wS w4 hbS hg4;have f4:=frozen_of_row w4 N 0 _ _ p4;have r4:=cell0 p4)
  | (go_simp;go_at_call 227;refine HS.out.mono ?_;rintro e wS ⟨A',rfl,hC,hbS⟩;have s0:=cell0 (HNS.out wS hbS)))
 all_goals
  refine ⟨rfl,_,results_none (by kernel_rfl) _ _ _,rfl,?_⟩
  exact jr_append HAC.out HKX.out.1.symm HKX.out.2 (HB.out.1.trans ((below_drew hbS).mono HB.out.1.size)) (HNS.out wS hbS) HJ.out.2.2.1 HJ.out.2.2.2 HB.out.2.2.2.2 hO4 hg4 hat4
theorem callRead (args:Array Value) (w:World):(callFunc 226 args).run Tryz.prog w=.ok (.enter 226 args) w:=by simp [go_sem]
theorem part_read {w:World} {F:Nat→Prop} {p:Nat} {t:Tab} {m:Nat} (h:Tb w F p t m) (k n:Nat) (hk:k + n≤t.L.length) (base N bt:Nat) (G0:Nat→Prop)
  (hF:∀ b,F b→b<base) (hbase:base≤w.heap.size) (hJ:JR t base N G0 [] w) (h1:w.heap[bt]?=some (.cells #[.pointer (some ⟨p,0,none⟩)] 83 (0,0))) (hbt:bt<base) :
  Calls Tryz.prog 225 #[.pointer (some ⟨p,0,none⟩),.int .i64 (k:Int),.int .i64 ((k + n:Nat):Int),.func (.func 226) #[] #[.pointer (some ⟨N,0,none⟩),.pointer (some ⟨bt,0,none⟩)]] w (Left (JR t base N) G0 (Tp.clip (k:Int) ((k + n:Nat):Int) (Tp.group t.L)) w):=by
 have hlen:=h.ok.len
 have hm:=h.le
 have:=part_any h (k:Int) ((k + n:Nat):Int) (by omega) (by omega) 226 #[.pointer (some ⟨N,0,none⟩),.pointer (some ⟨bt,0,none⟩)] base (JR t base N) G0 [] callRead hF hbase hJ (jr_keeps t base N) ?_
 ·rwa [List.nil_append] at this
 ·intro G acc2 x w1 hJ1 hb1 hx1 hx2 hl
  obtain ⟨r,hr⟩:=hl
  have htx:=Tp.text_clip h.ok k n
  rw [hr,List.flatMap_append,List.flatMap_append] at htx
  have hle:=congrArg List.length htx
  have hstr:(t.str x).length=x.len:=by unfold Tab.str;rw [List.length_take,List.length_drop];omega
  rw [List.length_append,List.length_append,List.length_take] at hle
  simp only [List.flatMap_cons,List.flatMap_nil,List.append_nil] at hle
  rw [hstr] at hle
  exact readClos (h.below hb1 hF) base N bt G acc2 x hJ1 hx2 (by omega) (below_old hb1 h1 hbt) hbt (Nat.le_trans hbase hb1.size)
open Go.RowKit
open Tp (Pc Plc Tab)
def Tp.readT (t:Tab) (pos n:Int):List Int:=if Tp.reachE t.L.length pos n=0 then (t.text.drop pos.toNat).take n.toNat else []
def RetRead (w:World) (cs:List Int) (er:Int) (e:Ending) (w':World):Prop:=∃ A c,e=.returned (.tuple #[.slice A cs.length c,.int .i64 er])∧OwnC w' w.heap.size (.slice A cs.length c) cs∧Below w.heap.size w w'
set_option maxHeartbeats 1000000 in
theorem read_tb {w:World} {F:Nat→Prop} {p:Nat} {t:Tab} {m:Nat} (h:Tb w F p t m) (pos n:Int) (hpos:Tp.I pos) :
  Calls Tryz.prog 182 #[.pointer (some ⟨p,0,none⟩),.int .i64 pos,.int .i64 n] w (RetRead w (Tp.readT t pos n) (Tp.reachE t.L.length pos n)):=by
 obtain ⟨W,hW⟩ : ∃ W,W=w.alloc (.cells #[.pointer (some ⟨p,0,none⟩)] 83):=⟨_,rfl⟩
 have hb:Below w.heap.size w W:=by rw [hW];exact below_alloc (Below.refl _ w) _
 have k1:W.heap[w.heap.size]?=some (.cells #[.pointer (some ⟨p,0,none⟩)] 83 (0,0)):=by rw [hW];exact heap_alloc_new w _
 have hT:=h.then_ hb
 have HR:=Lib.hid (reach_tb hT pos n hpos)
 have HW:=Lib.hid (And.intro hW (And.intro hb k1))
 have HTB:=Lib.hid h
 have HT:=Lib.hid hT
 have hlen:=h.ok.len
 have hm:=h.le
 obtain ⟨R,hR⟩ : ∃ R,R=Tp.reachE t.L.length pos n:=⟨_,rfl⟩
 rw [← hR] at HR ⊢
 rcases Tp.reach_cases t.L.length pos n with h0 | h0
 ·have hin:Tp.readT t pos n=(t.text.drop pos.toNat).take n.toNat:=by unfold Tp.readT;rw [if_pos h0]
  rw [hin]
  have hr:=Tp.reach_ok h0
  rw [← hR] at h0
  subst h0
  obtain ⟨k,rfl⟩ : ∃ k:Nat,pos=(k:Int):=⟨pos.toNat,by omega⟩
  obtain ⟨n,rfl⟩ : ∃ k:Nat,n=(k:Int):=⟨n.toNat,by omega⟩
  have hkn:k + n≤t.L.length:=by omega
  have HK:=Lib.hid hkn
  have hkb:k≤1073741824:=by omega
  have hnb:n≤1073741824:=by omega
  have hw:IntKind.i64.wrap ((k:Int) + (n:Int))=(k:Int) + (n:Int):=by simp [IntKind.wrap,IntKind.bits,IntKind.signed];omega
  rw [Int.toNat_natCast,Int.toNat_natCast]
  obtain ⟨X,hX⟩ : ∃ X,X=(t.text.drop k).take n:=⟨_,rfl⟩
  have HX:=Lib.hid hX
  rw [← hX]
  clear hX
  obtain ⟨i0,hi,hz0,hz1,hz2⟩:=info_parts infoChar
  have HI:=Lib.hid (And.intro hi (And.intro hz0 (And.intro hz1 (show i0.bytes * n≤281474976710656 by rw [hz2];omega))))
  clear hr hin hR hW hb k1 hT h hlen hpos hkn hi hz0 hz1 hz2
  go_enter Tryz.func182,Tryz.ntmps182
  go_wp2_with fail
  rw [← HW.out.1]
  refine HR.out.mono ?_
  rintro e w2 ⟨rfl,hb2⟩
  have HB2:=Lib.hid (below_then HW.out.2.1 hb2)
  have HQ:=Lib.hid (below_old hb2 HW.out.2.2 (lt_of_block HW.out.2.2))
  have HT2:=Lib.hid (HT.out.then_ hb2)
  clear hb2 HR
  go_wp2_with (at_make;refine wpList_make_own w2 rfl (.const (.int .i64 0)) (.tmp 17) 33 rfl w2.heap.size 41 i0 _ 1 Tryz.underlying33 HI.out.1 HI.out.2.1 HI.out.2.2.1 .i64 .i64 _ n (by rfl) (by rfl) (by omega) HI.out.2.2.2 (by unfold maxLen;omega) (Nat.le_refl _) ?_)
  intro w3 ho3 hg3
  have hb3:Below w2.heap.size w2 w3:=(Below.refl _ w2).grown hg3 (Nat.le_refl _) (fun k e=>by cases e)
  obtain ⟨V,hV⟩ : ∃ V,V=w3.alloc (.cells #[.slice (some ⟨w2.heap.size,0,none⟩) 0 n] 33):=⟨_,rfl⟩
  have hbV:Below w2.heap.size w2 V:=by rw [hV];exact below_alloc hb3 _
  have hJ0:JR t w2.heap.size w3.heap.size (fun b=>b=w2.heap.size∨b=w3.heap.size) [] V:=by
   have hz:=hb3.size
   have hl:=(World.ownsRow.lt ho3 w2.heap.size rfl).2
   have hzV:V.heap.size=w3.heap.size + 1:=by rw [hV];simp
   refine ⟨some ⟨w2.heap.size,0,none⟩,n,by rw [hV];exact heap_alloc_new w3 _,⟨by rw [hV];exact World.ownsRow.alloc ho3 _,fun x hx=>by cases hx⟩,fun g hg=>?_,⟨Or.inr rfl,fun b hb=>?_⟩⟩
   ·have e:g=w2.heap.size:=by cases hg;rfl
    subst e
    exact ⟨Or.inl rfl,by omega⟩
   ·rcases hb with rfl | rfl <;> omega
  have HC:=Lib.hid (part_read (HT2.out.then_ hbV) k n HK.out w2.heap.size w3.heap.size w.heap.size _ (fun b hb=>HT2.out.lt b hb) hbV.size hJ0 (below_old hbV HQ.out (lt_of_block HQ.out)) (lt_of_block HQ.out))
  rw [Int.natCast_add] at HC
  have d1:V.cell? ⟨w.heap.size,0,none⟩=some (.pointer (some ⟨p,0,none⟩)):=cell0 (below_old hbV HQ.out (lt_of_block HQ.out))
  rw [hV] at d1
  have HV:=Lib.hid (And.intro hV (And.intro hbV hb3))
  clear ho3 hg3 hb3 hbV hJ0 hV
  go_wp2_with fail
  rw [← HV.out.1]
  refine HC.out.mono ?_
  rintro e w5 ⟨rfl,ht5,G5,hJ5,hG5⟩
  have hb5:Below w2.heap.size w2 w5:=ht5.below HV.out.2.1 HV.out.2.1.size (fun b hb=>by have:=HV.out.2.2.size;rcases hb with rfl | rfl <;> omega)
  obtain ⟨A,c,j1,j2,j3,j4⟩:=hJ5
  have htx:=Tp.text_clip HTB.out.ok k n
  rw [Int.natCast_add] at htx
  rw [htx,← HX.out] at j1 j2
  have n0:=cell0 j1
  have HD:=Lib.hid (show RetRead w X 0 (.returned (.tuple #[.slice A X.length c,.int .i64 0])) w5 from ⟨A,c,rfl,j2.lower HB2.out.size,below_then HB2.out hb5⟩)
  clear htx j1 j2 j3 j4 hG5 ht5 hb5 HC
  go_wp2_with fail
  go_ret2
  exact HD.out
 ·have hin:Tp.readT t pos n=[]:=by unfold Tp.readT;rw [if_neg (by rw [h0];decide)]
  rw [hin]
  rw [← hR] at h0
  subst h0
  clear hin hR hW hb k1 hT h hlen hpos
  go_enter Tryz.func182,Tryz.ntmps182
  go_wp2_with fail
  rw [← HW.out.1]
  refine HR.out.mono ?_
  rintro e w2 ⟨rfl,hb2⟩
  have HB2:=Lib.hid (below_then HW.out.2.1 hb2)
  clear hb2
  go_wp2_with fail
  go_ret2
  exact ⟨none,0,rfl,OwnC.nil_ _ _,HB2.out⟩
set_option maxHeartbeats 400000 in
theorem text_tb {w:World} {F:Nat→Prop} {p:Nat} {t:Tab} {m:Nat} (h:Tb w F p t m):Calls Tryz.prog 96 #[.pointer (some ⟨p,0,none⟩)] w (RetC w t.text):=by
 have HL:=Lib.hid (len_tb h)
 have HR:=Lib.hid (fun w2 (hb:Below w.heap.size w w2)=>read_tb (h.then_ hb) 0 (t.L.length:Int) (Tp.I.mk (by omega)))
 have hre:Tp.reachE t.L.length 0 (t.L.length:Int)=0:=by unfold Tp.reachE;rw [if_neg (by omega)]
 have htx:Tp.readT t 0 (t.L.length:Int)=t.text:=by
  unfold Tp.readT
  rw [if_pos hre,Int.toNat_zero,List.drop_zero,Int.toNat_natCast,← Tp.len_text,List.take_length]
 rw [hre,htx] at HR
 obtain ⟨K,hK⟩ : ∃ K,K=t.L.length:=⟨_,rfl⟩
 rw [← hK] at HL HR
 clear h hre htx hK
 go_enter Tryz.func96,Tryz.ntmps96
 go_wp2_with fail
 refine HL.out.mono ?_
 rintro e w2 ⟨rfl,hb2⟩
 have HR2:=Lib.hid (HR.out w2 hb2)
 have HB2:=Lib.hid hb2
 clear hb2 HL HR
 go_wp2_with fail
 refine HR2.out.mono ?_
 rintro e w3 ⟨A,c,rfl,hO,hb⟩
 have H:=Lib.hid (And.intro (hO.lower HB2.out.size) (below_then HB2.out hb))
 clear hO hb
 go_wp2_with fail
 go_ret
 exact ⟨A,c,rfl,H.out.1,H.out.2⟩
open Go.RowKit
open Tp (Pc Plc Tab)
def put4 (w:World) (p:Nat) (v0 v1 v2 v3:Value):World:=(((w.setCell ⟨p,0,none⟩ v0).setCell ⟨p,1,none⟩ v1).setCell ⟨p,2,none⟩ v2).setCell ⟨p,3,none⟩ v3
theorem put4_far {w:World} {p b:Nat} {v0 v1 v2 v3:Value} (e:b≠p):(put4 w p v0 v1 v2 v3).heap[b]?=w.heap[b]?:=by
 unfold put4
 rw [blk_keep v3 e,blk_keep v2 e,blk_keep v1 e,blk_keep v0 e]
theorem put4_at {w:World} {p:Nat} {v0 v1 v2 v3 x0 x1 x2 x3:Value} {t:TypeId} (h:w.heap[p]?=some (.cells #[x0,x1,x2,x3] t (0,0))):(put4 w p v0 v1 v2 v3).heap[p]?=some (.cells #[v0,v1,v2,v3] t (0,0)):=by
 unfold put4
 rw [blk_set (blk_set (blk_set (blk_set h v0) v1) v2) v3];rfl
theorem put4_tn {w0 w:World} {F:Nat→Prop} {p:Nat} (h:Tn F w0 w) (hp:F p) (v0 v1 v2 v3:Value):Tn F w0 (put4 w p v0 v1 v2 v3):=by
 have h1:=h.set_ (p:=⟨p,0,none⟩) (Or.inr hp) v0
 have h2:=h1.set_ (p:=⟨p,1,none⟩) (Or.inr hp) v1
 have h3:=h2.set_ (p:=⟨p,2,none⟩) (Or.inr hp) v2
 exact h3.set_ (p:=⟨p,3,none⟩) (Or.inr hp) v3
theorem flat_did {w w3:World} {F F2:Nat→Prop} {p p2:Nat} {t t2:Tab} {m m2:Nat} (h:Tb w F p t m) (hb:Below w.heap.size w w3) (h2:Tb w3 F2 p2 t2 m2) (hm:m2≤m) (hF:∀ b,F2 b→w.heap.size≤b) :
  ∃ B1 n1 d1 q2 x B3 n3 d3,w3.heap[p2]?=some (.cells #[.slice B1 n1 d1,.pointer (some ⟨q2,0,none⟩),.int .i64 x,.slice B3 n3 d3] 181 (0,0))∧Did w F p t2 m (put4 w3 p (.slice B1 n1 d1) (.pointer (some ⟨q2,0,none⟩)) (.int .i64 x) (.slice B3 n3 d3)):=by
 obtain ⟨hlt,_,hmm,hp,A1,c1,q,A2,c2,A3,c3,h1,_⟩:=h
 obtain ⟨klt,kok,kmm,kp,B1,d1,q2,B2,d2,B3,d3,k1,k2,k3,k4,k5,k6,k7,k8,k9,k10⟩:=h2
 refine ⟨_,_,_,_,_,_,_,_,k1,?_⟩
 have lp:=hlt p hp
 have hpz:=put4_at (v0:=.slice B1 t2.fst.length d1) (v1:=.pointer (some ⟨q2,0,none⟩)) (v2:=.int .i64 ((t2.snd.length:Nat):Int)) (v3:=.slice B3 (Tp.group t2.L).length d3) (below_old hb h1 lp)
 have hfar:∀ b,b≠p→(put4 w3 p (.slice B1 t2.fst.length d1) (.pointer (some ⟨q2,0,none⟩)) (.int .i64 ((t2.snd.length:Nat):Int)) (.slice B3 (Tp.group t2.L).length d3)).heap[b]?=w3.heap[b]?:=fun b e=>put4_far e
 have hT:=put4_tn (Tn.of F hb) hp (.slice B1 t2.fst.length d1) (.pointer (some ⟨q2,0,none⟩)) (.int .i64 ((t2.snd.length:Nat):Int)) (.slice B3 (Tp.group t2.L).length d3)
 revert hpz hfar hT
 generalize put4 w3 p (.slice B1 t2.fst.length d1) (.pointer (some ⟨q2,0,none⟩)) (.int .i64 ((t2.snd.length:Nat):Int)) (.slice B3 (Tp.group t2.L).length d3)=Z
 intro hpz hfar hT
 have hne:∀ b,F2 b→b≠p:=fun b hb=>by have:=hF b hb;omega
 refine did_of (A1:=B1) (A2:=B2) (A3:=B3) (c1:=d1) (c2:=d2) (c3:=d3) (q:=q2) hlt (kok.mono hm) hmm hp hT hpz ?_ ?_ ?_ ?_ (Or.inr (hF q2 k6)) ?_ ?_ ?_ ?_
 ·exact (hfar q2 (hne q2 k6)).trans k2
 ·exact k3.same fun g _ _ e=>hfar g (hne g (k8 g e).1)
 ·exact k4.same fun g _ _ e=>hfar g (hne g (k9 g e).1)
 ·exact OwnR.same k5 fun g _ _ e=>hfar g (hne g (k10 g e).1)
 ·exact fun e=>hne q2 k6 e.symm
 ·exact fun g e=>⟨Or.inr (hF g (k8 g e).1),hne g (k8 g e).1,(k8 g e).2.2.1,(k8 g e).2.2.2⟩
 ·exact fun g e=>⟨Or.inr (hF g (k9 g e).1),hne g (k9 g e).1,(k9 g e).2.2⟩
 ·exact fun g e=>⟨Or.inr (hF g (k10 g e).1),hne g (k10 g e).1,(k10 g e).2.2.1,(k10 g e).2.2.2⟩
set_option maxHeartbeats 1000000 in
theorem flat_tb {w:World} {F:Nat→Prop} {p:Nat} {t:Tab} {m:Nat} (h:Tb w F p t m) :
  Calls Tryz.prog 111 #[.pointer (some ⟨p,0,none⟩)] w fun e w'=>e=.returned (.tuple #[])∧Did w F p (Tp.fresh t.text) m w':=by
 have HN:=Lib.hid (none_tb h)
 have HT:=Lib.hid (text_tb h)
 have hlen:=h.ok.len
 have hm:=h.le
 have htl:=Tp.len_text t
 have HW:=Lib.hid (fun w2 A c (hO:OwnC w2 w.heap.size (.slice A t.text.length c) t.text) (hb:Below w.heap.size w w2)=>new_any A t.text.length c t.text w2 hO.crs.2 (by omega))
 have HD:=Lib.hid (fun w3 F2 p2 (hb:Below w.heap.size w w3) (h2:Tb w3 F2 p2 (Tp.fresh t.text) t.text.length) (hF:∀ b,F2 b→w.heap.size≤b)=>flat_did h hb h2 (by omega) hF)
 have HTB:=Lib.hid h
 obtain ⟨X,hX⟩ : ∃ X,X=t.text:=⟨_,rfl⟩
 unfold RetC at HT
 rw [← hX] at HT HW HD ⊢
 obtain ⟨k,hk⟩ : ∃ k,k=X.length:=⟨_,rfl⟩
 rw [← hk] at HT HW HD
 clear h hlen hm htl hX hk
 go_enter Tryz.func111,Tryz.ntmps111
 go_wp2_with fail
 refine HN.out.mono ?_
 rintro e w' ⟨rfl,rfl⟩
 go_wp2_with fail
 refine HT.out.mono ?_
 rintro e w2 ⟨A,c,rfl,hO,hb⟩
 have HN2:=Lib.hid (HW.out w2 A c hO hb)
 have HB2:=Lib.hid hb
 clear hO hb HW HT
 go_wp2_with fail
 refine HN2.out.mono ?_
 rintro e w3 ⟨p2,F2,rfl,hT2,hF2,hb3⟩
 have hb03:=below_then HB2.out hb3
 obtain ⟨B1,n1,d1,q2,x,B3,n3,d3,hp2,hD⟩:=HD.out w3 F2 p2 hb03 hT2 (fun b hb=>Nat.le_trans HB2.out.size (hF2 b hb))
 obtain ⟨hlt,_,_,hp,A1,c1,q,A2,c2,A3,c3,h1,_⟩:=HTB.out
 have hpz:=below_old hb03 h1 (hlt p hp)
 have g0:=cell0 hp2
 have g1:=cell1 hp2
 have g2:=cell2 hp2
 have g3:=cell3 hp2
 have f0:=fun j=>frozen_of_row w3 p j _ _ hpz
 have e0:=cell0 hpz
 have e1:=cell1 hpz
 have e2:=cell2 hpz
 have e3:=cell3 hpz
 have HDD:=Lib.hid hD
 unfold put4 at HDD
 clear hb03 hT2 hF2 hb3 hp2 hD hlt hp h1 hpz HN2 HD
 go_wp2_with fail
 exact ⟨rfl,_,results_none (by kernel_rfl) _ _ _,rfl,HDD.out⟩
end Go.Proofs.YtlgdcelgkiipaaaGreat.Tbl
