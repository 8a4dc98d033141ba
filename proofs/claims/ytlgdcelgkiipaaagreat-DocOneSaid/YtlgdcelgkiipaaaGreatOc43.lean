/-
  Leave, Snap, Who, Fetch as wholes. Conditions: those that each states.
  Move's own part. Conditions: those that it states.
-/
import Derived.Test.YtlgdcelgkiipaaaGreatOc41
import Derived.Test.YtlgdcelgkiipaaaGreatOc42
set_option maxRecDepth 100000
set_option linter.unusedVariables false
namespace Go.Proofs.YtlgdcelgkiipaaaGreat
open Go.RowKit
open Pl (Un)
section
variable {w:World} {D m:Nat} {k:Nat→Nat} {d:Pl.Dc}
theorem at_who {d:Pl.Dc} {c t:Int} (ht:¬ 1099511627776<t):d.who c t=told (if Pl.liveM (d.touched t).L c t=true then ((d.touched t).renewed c t,{ Pl.fails 0 with seats:=((d.touched t).renewed c t).seats }) else (d.touched t,Pl.fails 36)):=by
 unfold Pl.Dc.who Pl.Dc.at_
 rw [call_told ht]
 simp only
 by_cases hl:Pl.liveM (d.touched t).L c t=true
 ·rw [if_pos hl,if_pos hl];exact congrArg told (if_pos rfl)
 ·rw [if_neg hl,if_neg hl]
theorem tells_e {d:Pl.Dc} {rev:Nat} (h:¬ d.now<rev):(d.tells rev false).e=0:=by unfold Pl.Dc.tells;rw [if_neg h];split <;> rfl
theorem at_fetch {d:Pl.Dc} {c t:Int} {rev:Nat} {most:Int} (ht:¬ 1099511627776<t):d.fetch c rev most t=told (if Pl.liveM (d.touched t).L c t=true then (d.touched t).fetchF c rev most t else (d.touched t,Pl.fails 36)):=by
 unfold Pl.Dc.fetch Pl.Dc.at_
 rw [call_told ht]
 simp only
 by_cases hl:Pl.liveM (d.touched t).L c t=true
 ·rw [if_pos hl,if_pos hl]
  refine congrArg told ?_
  generalize d.touched t=z
  unfold Pl.Dc.fetchF
  by_cases h1:most<0
  ·rw [if_pos h1,if_pos h1];exact if_neg (show ¬ (1:Int)=0 by decide)
  ·rw [if_neg h1,if_neg h1]
   by_cases h2:z.now<rev
   ·have hz:z.tells rev false=Pl.fails 31:=by unfold Pl.Dc.tells;rw [if_pos h2]
    rw [if_pos h2,hz,if_pos (show (Pl.fails 31).e≠0 by decide)]
    exact if_neg (show ¬ (31:Int)=0 by decide)
   ·have hz:=tells_e h2
    rw [if_neg h2,if_neg (show ¬ (z.tells rev false).e≠0 from fun h=>h hz)]
    exact if_pos hz
 ·rw [if_neg hl,if_neg hl]
set_option maxHeartbeats 1000000 in
theorem leave_any (h:DocAt w D k d m) {c:Int} (hc:0≤c∧c<4294967296) (now:Int) (h0:0≤now) (hnow:now≤1099511627776) (ht:d.t + 1<18446744073709551616) :
  Calls Tryz.prog 39 #[.pointer (some ⟨D,0,none⟩),.int .u32 c,.int .u64 now] w (DocP w D k m (d.leave_ c now)):=by
 obtain ⟨⟨pa,tx,ls,mk,h⟩,hok⟩:=h
 obtain ⟨X,hX⟩ : ∃ X,X=({ d.touched now with L:=Pl.delM (d.touched now).L c,M:=Pl.delM (d.touched now).M c },Pl.fails 0):=⟨_,rfl⟩
 obtain ⟨X2,hX2⟩ : ∃ X2,X2=if Pl.liveM (d.touched now).L c now=true then X else (d.touched now,Pl.fails 36):=⟨_,rfl⟩
 have hE:d.leave_ c now=told X2:=by rw [hX2,hX];exact by unfold Pl.Dc.leave_;exact call_told (by omega) _
 have hok2:=Pl.Dc.ok_leave hok c now
 rw [hE] at hok2 ⊢
 obtain ⟨R,hR⟩ : ∃ R,R=DocP w D k m (told X2):=⟨_,rfl⟩
 rw [← hR]
 have HR:=Lib.hid hR
 have HH:=Lib.hid h
 have HOK:=Lib.hid hok2
 have HO:=Lib.hid hok
 clear h hR hok2 hE hok
 go_enter Tryz.func39,Tryz.ntmps39
 go_wp2_with fail
 obtain ⟨os,hos⟩ : ∃ os:List Obj,os=[.cells #[.pointer (some ⟨D,0,none⟩)] 23,.cells #[.int .u32 c] 28,.cells #[.int .i64 0,.int .u32 0,.int .u64 0,.bool false,.slice none 0 0,.slice none 0 0,.slice none 0 0] 37]:=⟨_,rfl⟩
 have hW:allocs w os=(((w.alloc (.cells #[.pointer (some ⟨D,0,none⟩)] 23)).alloc (.cells #[.int .u32 c] 28)).alloc (.cells #[.int .i64 0,.int .u32 0,.int .u64 0,.bool false,.slice none 0 0,.slice none 0 0,.slice none 0 0] 37)):=by rw [hos];rfl
 rw [← hW]
 have hB:=allocs_below os w
 have e0:=allocs_at os w 0 _ (by rw [hos];rfl)
 have e1:=allocs_at os w 1 _ (by rw [hos];rfl)
 have e2:=allocs_at os w 2 _ (by rw [hos];rfl)
 clear hW hos
 generalize allocs w os=W0 at hB e0 e1 e2 ⊢
 clear os
 have hlt:=HH.out.lt
 have hz:=fun b (hb:w.heap.size≤b)=>box_zero k b hlt hb
 have hs:=lt_of_block e2
 have hC:=at_any (HH.out.then_ hB) now h0 hnow ht hc 112 #[.pointer (some ⟨w.heap.size,0,none⟩),.pointer (some ⟨w.heap.size + 1,0,none⟩)] X
  (fun args w=>by simp [go_sem]) (fun he=>by
   rw [hX] at he ⊢
   exact absurd rfl he) (fun w1 al h1 h2 h3 h4 hl _=>by
   rw [hX]
   exact leave1_any h1 (Pl.Dc.ok_touched HO.out now) hc now hl h4 (hz al (Nat.le_trans hB.size h3)) _ _ (box_mv h2 e0 hlt (by omega)) (box_mv h2 e1 hlt (by omega)) ⟨hz _ (by omega),hz _ (by omega)⟩)
 rw [← hX2] at hC
 have HC:=Lib.hid hC
 have HE:=Lib.hid (And.intro hB (And.intro hlt (show AnAt W0 (w.heap.size + 2) 0 0 false none 0 0 none 0 0 none 0 0 from e2)))
 clear hC hB e0 e1 e2 hlt hX hX2 hz hs
 refine HC.out.mono ?_
 rintro e w2 ⟨k',m',v,rfl,hd,hm,hmv,A,n,c5,A2,n2,c2,A3,n3,c3,rfl,hr⟩
 have hr4:w.heap.size + 2<W0.heap.size:=HE.out.2.2.lt
 have h4:AnAt w2 (w.heap.size + 2) 0 0 false none 0 0 none 0 0 none 0 0:=box_mv hmv HE.out.2.2 HE.out.2.1 (by omega)
 have HD:=Lib.hid (And.intro hd (And.intro hm (And.intro hmv hr)))
 have H4:=Lib.hid h4
 have HR4:=Lib.hid hr4
 obtain ⟨d0,d1,d2,d3,d4,d5,d6⟩:=h4.cells
 have g7:=h4.frozen
 clear hd hm hmv hr h4 hr4 HC
 generalize told X2=Y at HD HR HOK ⊢
 obtain ⟨dq,⟨e7,rev7,wh7,tx7,op7,se7⟩⟩:=Y
 simp only at HD
 unfold aval
 simp only
 rw [show w.heap.size + 2=w.heap.size + 1 + 1 from rfl] at *
 go_wp2_with fail
 refine bodyPost_ret (results_an rfl (by rfl) (H4.out.sets _ _ _ A n c5 A2 n2 c2 A3 n3 c3)) rfl ?_
 rw [HR.out]
 exact DocR.p (DocR.end_ HE.out.2.1 HE.out.1 (by omega) HR4.out HD.out.1 HD.out.2.1 HD.out.2.2.1 HD.out.2.2.2 _ _ _ _ _ _ _) HOK.out
set_option maxHeartbeats 1000000 in
theorem snap_any (h:DocAt w D k d m) (kp:Int) (hkp:kp≤9223372036854775807) (now:Int) (h0:0≤now) (hnow:now≤1099511627776) (ht:d.t + 1<18446744073709551616) :
  Calls Tryz.prog 38 #[.pointer (some ⟨D,0,none⟩),.int .i64 kp,.int .u64 now] w (DocP w D k m (d.snap kp now)):=by
 obtain ⟨⟨pa,tx,ls,mk,h⟩,hok⟩:=h
 obtain ⟨X,hX⟩ : ∃ X,X=((d.touched now).cut ((d.touched now).gone kp),Pl.fails 0):=⟨_,rfl⟩
 obtain ⟨X2,hX2⟩ : ∃ X2,X2=X:=⟨_,rfl⟩
 have hE:d.snap kp now=told X2:=by rw [hX2,hX];exact by unfold Pl.Dc.snap;exact call_told (by omega) _
 have hok2:=Pl.Dc.ok_snap hok kp now
 rw [hE] at hok2 ⊢
 obtain ⟨R,hR⟩ : ∃ R,R=DocP w D k m (told X2):=⟨_,rfl⟩
 rw [← hR]
 have HR:=Lib.hid hR
 have HH:=Lib.hid h
 have HOK:=Lib.hid hok2
 have HO:=Lib.hid hok
 clear h hR hok2 hE hok
 go_enter Tryz.func38,Tryz.ntmps38
 go_wp2_with fail
 obtain ⟨os,hos⟩ : ∃ os:List Obj,os=[.cells #[.pointer (some ⟨D,0,none⟩)] 23,.cells #[.int .i64 kp] 3,.cells #[.int .i64 0,.int .u32 0,.int .u64 0,.bool false,.slice none 0 0,.slice none 0 0,.slice none 0 0] 37]:=⟨_,rfl⟩
 have hW:allocs w os=(((w.alloc (.cells #[.pointer (some ⟨D,0,none⟩)] 23)).alloc (.cells #[.int .i64 kp] 3)).alloc (.cells #[.int .i64 0,.int .u32 0,.int .u64 0,.bool false,.slice none 0 0,.slice none 0 0,.slice none 0 0] 37)):=by rw [hos];rfl
 rw [← hW]
 have hB:=allocs_below os w
 have e0:=allocs_at os w 0 _ (by rw [hos];rfl)
 have e1:=allocs_at os w 1 _ (by rw [hos];rfl)
 have e2:=allocs_at os w 2 _ (by rw [hos];rfl)
 clear hW hos
 generalize allocs w os=W0 at hB e0 e1 e2 ⊢
 clear os
 have hlt:=HH.out.lt
 have hz:=fun b (hb:w.heap.size≤b)=>box_zero k b hlt hb
 have hs:=lt_of_block e2
 have hC:=touched_any (HH.out.then_ hB) now h0 hnow ht 109 #[.pointer (some ⟨w.heap.size,0,none⟩),.pointer (some ⟨w.heap.size + 1,0,none⟩)] X
  (fun args w=>by simp [go_sem]) (fun he=>by
   rw [hX] at he ⊢
   exact absurd rfl he) (fun w1 al h1 h2 h3 h4 _=>by
   rw [hX]
   exact snap1_any h1 kp hkp h4 (hz al (Nat.le_trans hB.size h3)) _ _ (box_mv h2 e0 hlt (by omega)) (box_mv h2 e1 hlt (by omega)) ⟨hz _ (by omega),hz _ (by omega)⟩)
 rw [← hX2] at hC
 have HC:=Lib.hid hC
 have HE:=Lib.hid (And.intro hB (And.intro hlt (show AnAt W0 (w.heap.size + 2) 0 0 false none 0 0 none 0 0 none 0 0 from e2)))
 clear hC hB e0 e1 e2 hlt hX hX2 hz hs
 refine HC.out.mono ?_
 rintro e w2 ⟨k',m',v,rfl,hd,hm,hmv,A,n,c5,A2,n2,c2,A3,n3,c3,rfl,hr⟩
 have hr4:w.heap.size + 2<W0.heap.size:=HE.out.2.2.lt
 have h4:AnAt w2 (w.heap.size + 2) 0 0 false none 0 0 none 0 0 none 0 0:=box_mv hmv HE.out.2.2 HE.out.2.1 (by omega)
 have HD:=Lib.hid (And.intro hd (And.intro hm (And.intro hmv hr)))
 have H4:=Lib.hid h4
 have HR4:=Lib.hid hr4
 obtain ⟨d0,d1,d2,d3,d4,d5,d6⟩:=h4.cells
 have g7:=h4.frozen
 clear hd hm hmv hr h4 hr4 HC
 generalize told X2=Y at HD HR HOK ⊢
 obtain ⟨dq,⟨e7,rev7,wh7,tx7,op7,se7⟩⟩:=Y
 simp only at HD
 unfold aval
 simp only
 rw [show w.heap.size + 2=w.heap.size + 1 + 1 from rfl] at *
 go_wp2_with fail
 refine bodyPost_ret (results_an rfl (by rfl) (H4.out.sets _ _ _ A n c5 A2 n2 c2 A3 n3 c3)) rfl ?_
 rw [HR.out]
 exact DocR.p (DocR.end_ HE.out.2.1 HE.out.1 (by omega) HR4.out HD.out.1 HD.out.2.1 HD.out.2.2.1 HD.out.2.2.2 _ _ _ _ _ _ _) HOK.out
set_option maxHeartbeats 1000000 in
theorem who_any (h:DocAt w D k d m) {c:Int} (hc:0≤c∧c<4294967296) (now:Int) (h0:0≤now) (hnow:now≤1099511627776) (ht:d.t + 1<18446744073709551616) :
  Calls Tryz.prog 36 #[.pointer (some ⟨D,0,none⟩),.int .u32 c,.int .u64 now] w (DocP w D k m (d.who c now)):=by
 obtain ⟨⟨pa,tx,ls,mk,h⟩,hok⟩:=h
 obtain ⟨X,hX⟩ : ∃ X,X=((d.touched now).renewed c now,{ Pl.fails 0 with seats:=((d.touched now).renewed c now).seats }):=⟨_,rfl⟩
 obtain ⟨X2,hX2⟩ : ∃ X2,X2=if Pl.liveM (d.touched now).L c now=true then X else (d.touched now,Pl.fails 36):=⟨_,rfl⟩
 have hE:d.who c now=told X2:=by rw [hX2,hX];exact at_who (by omega)
 have hok2:=Pl.Dc.ok_who hok h0 (c:=c) (by omega)
 rw [hE] at hok2 ⊢
 obtain ⟨R,hR⟩ : ∃ R,R=DocP w D k m (told X2):=⟨_,rfl⟩
 rw [← hR]
 have HR:=Lib.hid hR
 have HH:=Lib.hid h
 have HOK:=Lib.hid hok2
 have HO:=Lib.hid hok
 clear h hR hok2 hE hok
 go_enter Tryz.func36,Tryz.ntmps36
 go_wp2_with fail
 obtain ⟨os,hos⟩ : ∃ os:List Obj,os=[.cells #[.pointer (some ⟨D,0,none⟩)] 23,.cells #[.int .u32 c] 28,.cells #[.int .u64 now] 27,.cells #[.int .i64 0,.int .u32 0,.int .u64 0,.bool false,.slice none 0 0,.slice none 0 0,.slice none 0 0] 37]:=⟨_,rfl⟩
 have hW:allocs w os=((((w.alloc (.cells #[.pointer (some ⟨D,0,none⟩)] 23)).alloc (.cells #[.int .u32 c] 28)).alloc (.cells #[.int .u64 now] 27)).alloc (.cells #[.int .i64 0,.int .u32 0,.int .u64 0,.bool false,.slice none 0 0,.slice none 0 0,.slice none 0 0] 37)):=by rw [hos];rfl
 rw [← hW]
 have hB:=allocs_below os w
 have e0:=allocs_at os w 0 _ (by rw [hos];rfl)
 have e1:=allocs_at os w 1 _ (by rw [hos];rfl)
 have e2:=allocs_at os w 2 _ (by rw [hos];rfl)
 have e3:=allocs_at os w 3 _ (by rw [hos];rfl)
 clear hW hos
 generalize allocs w os=W0 at hB e0 e1 e2 e3 ⊢
 clear os
 have hlt:=HH.out.lt
 have hz:=fun b (hb:w.heap.size≤b)=>box_zero k b hlt hb
 have hs:=lt_of_block e3
 have hC:=at_any (HH.out.then_ hB) now h0 hnow ht hc 104 #[.pointer (some ⟨w.heap.size,0,none⟩),.pointer (some ⟨w.heap.size + 1,0,none⟩),.pointer (some ⟨w.heap.size + 1 + 1,0,none⟩)] X
  (fun args w=>by simp [go_sem]) (fun he=>by
   rw [hX] at he ⊢
   exact absurd rfl he) (fun w1 al h1 h2 h3 h4 hl _=>by
   rw [hX]
   exact who1_any h1 (Pl.Dc.ok_touched HO.out now) hc now h0 hnow hl h4 (hz al (Nat.le_trans hB.size h3)) _ _ _ (box_mv h2 e0 hlt (by omega)) (box_mv h2 e1 hlt (by omega)) (box_mv h2 e2 hlt (by omega)) ⟨hz _ (by omega),hz _ (by omega),hz _ (by omega)⟩)
 rw [← hX2] at hC
 have HC:=Lib.hid hC
 have HE:=Lib.hid (And.intro hB (And.intro hlt (show AnAt W0 (w.heap.size + 3) 0 0 false none 0 0 none 0 0 none 0 0 from e3)))
 clear hC hB e0 e1 e2 e3 hlt hX hX2 hz hs
 refine HC.out.mono ?_
 rintro e w2 ⟨k',m',v,rfl,hd,hm,hmv,A,n,c5,A2,n2,c2,A3,n3,c3,rfl,hr⟩
 have hr4:w.heap.size + 3<W0.heap.size:=HE.out.2.2.lt
 have h4:AnAt w2 (w.heap.size + 3) 0 0 false none 0 0 none 0 0 none 0 0:=box_mv hmv HE.out.2.2 HE.out.2.1 (by omega)
 have HD:=Lib.hid (And.intro hd (And.intro hm (And.intro hmv hr)))
 have H4:=Lib.hid h4
 have HR4:=Lib.hid hr4
 obtain ⟨d0,d1,d2,d3,d4,d5,d6⟩:=h4.cells
 have g7:=h4.frozen
 clear hd hm hmv hr h4 hr4 HC
 generalize told X2=Y at HD HR HOK ⊢
 obtain ⟨dq,⟨e7,rev7,wh7,tx7,op7,se7⟩⟩:=Y
 simp only at HD
 unfold aval
 simp only
 rw [show w.heap.size + 3=w.heap.size + 1 + 1 + 1 from rfl] at *
 go_wp2_with fail
 refine bodyPost_ret (results_an rfl (by rfl) (H4.out.sets _ _ _ A n c5 A2 n2 c2 A3 n3 c3)) rfl ?_
 rw [HR.out]
 exact DocR.p (DocR.end_ HE.out.2.1 HE.out.1 (by omega) HR4.out HD.out.1 HD.out.2.1 HD.out.2.2.1 HD.out.2.2.2 _ _ _ _ _ _ _) HOK.out
set_option maxHeartbeats 1000000 in
theorem fetch_any (h:DocAt w D k d m) {c:Int} (hc:0≤c∧c<4294967296) (rev:Nat) (hrev:rev≤18446744073709551615) (most:Int) (hmo:most≤9223372036854775807) (now:Int) (h0:0≤now) (hnow:now≤1099511627776) (ht:d.t + 1<18446744073709551616) :
  Calls Tryz.prog 34 #[.pointer (some ⟨D,0,none⟩),.int .u32 c,.int .u64 (rev:Int),.int .i64 most,.int .u64 now] w (DocP w D k m (d.fetch c rev most now)):=by
 obtain ⟨⟨pa,tx,ls,mk,h⟩,hok⟩:=h
 obtain ⟨X,hX⟩ : ∃ X,X=(d.touched now).fetchF c rev most now:=⟨_,rfl⟩
 obtain ⟨X2,hX2⟩ : ∃ X2,X2=if Pl.liveM (d.touched now).L c now=true then X else (d.touched now,Pl.fails 36):=⟨_,rfl⟩
 have hE:d.fetch c rev most now=told X2:=by rw [hX2,hX];exact at_fetch (by omega)
 have hok2:=Pl.Dc.ok_fetch hok (c:=c) (t:=now) h0 (by omega) rev most
 rw [hE] at hok2 ⊢
 obtain ⟨R,hR⟩ : ∃ R,R=DocP w D k m (told X2):=⟨_,rfl⟩
 rw [← hR]
 have HR:=Lib.hid hR
 have HH:=Lib.hid h
 have HOK:=Lib.hid hok2
 have HO:=Lib.hid hok
 clear h hR hok2 hE hok
 go_enter Tryz.func34,Tryz.ntmps34
 go_wp2_with fail
 obtain ⟨os,hos⟩ : ∃ os:List Obj,os=[.cells #[.pointer (some ⟨D,0,none⟩)] 23,.cells #[.int .u32 c] 28,.cells #[.int .u64 (rev:Int)] 27,.cells #[.int .i64 most] 3,.cells #[.int .u64 now] 27,.cells #[.int .i64 0,.int .u32 0,.int .u64 0,.bool false,.slice none 0 0,.slice none 0 0,.slice none 0 0] 37]:=⟨_,rfl⟩
 have hW:allocs w os=((((((w.alloc (.cells #[.pointer (some ⟨D,0,none⟩)] 23)).alloc (.cells #[.int .u32 c] 28)).alloc (.cells #[.int .u64 (rev:Int)] 27)).alloc (.cells #[.int .i64 most] 3)).alloc (.cells #[.int .u64 now] 27)).alloc (.cells #[.int .i64 0,.int .u32 0,.int .u64 0,.bool false,.slice none 0 0,.slice none 0 0,.slice none 0 0] 37)):=by rw [hos];rfl
 rw [← hW]
 have hB:=allocs_below os w
 have e0:=allocs_at os w 0 _ (by rw [hos];rfl)
 have e1:=allocs_at os w 1 _ (by rw [hos];rfl)
 have e2:=allocs_at os w 2 _ (by rw [hos];rfl)
 have e3:=allocs_at os w 3 _ (by rw [hos];rfl)
 have e4:=allocs_at os w 4 _ (by rw [hos];rfl)
 have e5:=allocs_at os w 5 _ (by rw [hos];rfl)
 clear hW hos
 generalize allocs w os=W0 at hB e0 e1 e2 e3 e4 e5 ⊢
 clear os
 have hlt:=HH.out.lt
 have hz:=fun b (hb:w.heap.size≤b)=>box_zero k b hlt hb
 have hs:=lt_of_block e5
 have hC:=at_any (HH.out.then_ hB) now h0 hnow ht hc 101 #[.pointer (some ⟨w.heap.size + 1 + 1 + 1,0,none⟩),.pointer (some ⟨w.heap.size + 1 + 1,0,none⟩),.pointer (some ⟨w.heap.size,0,none⟩),.pointer (some ⟨w.heap.size + 1,0,none⟩),.pointer (some ⟨w.heap.size + 1 + 1 + 1 + 1,0,none⟩)] X
  (fun args w=>by simp [go_sem]) (fun he=>by
   rw [hX] at he ⊢
   unfold Pl.Dc.fetchF at he ⊢
   by_cases h1:most<0
   ·rw [if_pos h1];rfl
   ·by_cases h2:(d.touched now).now<rev
    ·rw [if_neg h1,if_pos h2];rfl
    ·rw [if_neg h1,if_neg h2] at he;exact absurd (tells_e h2) he) (fun w1 al h1 h2 h3 h4 hl _=>by
   rw [hX]
   exact fetch1_any h1 (Pl.Dc.ok_touched HO.out now) hc rev hrev most hmo now h0 hnow hl h4 (hz al (Nat.le_trans hB.size h3)) _ _ _ _ _ (box_mv h2 e3 hlt (by omega)) (box_mv h2 e2 hlt (by omega)) (box_mv h2 e0 hlt (by omega)) (box_mv h2 e1 hlt (by omega)) (box_mv h2 e4 hlt (by omega)) ⟨⟨hz _ (by omega),hz _ (by omega),hz _ (by omega),hz _ (by omega),hz _ (by omega)⟩,by omega⟩)
 rw [← hX2] at hC
 have HC:=Lib.hid hC
 have HE:=Lib.hid (And.intro hB (And.intro hlt (show AnAt W0 (w.heap.size + 5) 0 0 false none 0 0 none 0 0 none 0 0 from e5)))
 clear hC hB e0 e1 e2 e3 e4 e5 hlt hX hX2 hz hs
 refine HC.out.mono ?_
 rintro e w2 ⟨k',m',v,rfl,hd,hm,hmv,A,n,c5,A2,n2,c2,A3,n3,c3,rfl,hr⟩
 have hr4:w.heap.size + 5<W0.heap.size:=HE.out.2.2.lt
 have h4:AnAt w2 (w.heap.size + 5) 0 0 false none 0 0 none 0 0 none 0 0:=box_mv hmv HE.out.2.2 HE.out.2.1 (by omega)
 have HD:=Lib.hid (And.intro hd (And.intro hm (And.intro hmv hr)))
 have H4:=Lib.hid h4
 have HR4:=Lib.hid hr4
 obtain ⟨d0,d1,d2,d3,d4,d5,d6⟩:=h4.cells
 have g7:=h4.frozen
 clear hd hm hmv hr h4 hr4 HC
 generalize told X2=Y at HD HR HOK ⊢
 obtain ⟨dq,⟨e7,rev7,wh7,tx7,op7,se7⟩⟩:=Y
 simp only at HD
 unfold aval
 simp only
 rw [show w.heap.size + 5=w.heap.size + 1 + 1 + 1 + 1 + 1 from rfl] at *
 go_wp2_with fail
 refine bodyPost_ret (results_an rfl (by rfl) (H4.out.sets _ _ _ A n c5 A2 n2 c2 A3 n3 c3)) rfl ?_
 rw [HR.out]
 exact DocR.p (DocR.end_ HE.out.2.1 HE.out.1 (by omega) HR4.out HD.out.1 HD.out.2.1 HD.out.2.2.1 HD.out.2.2.2 _ _ _ _ _ _ _) HOK.out
end
open Go.RowKit
open Pl (Un)
namespace Pl.Dc
def moveF (c:Int) (rev:Nat) (pos t:Int) (d:Dc):Dc × An :=
 if (place d.fr d.P.length 0 rev).2≠0 then (d,fails (place d.fr d.P.length 0 rev).2) else
 if pos<0∨d.long rev<pos then (d,fails 30) else (({ d with M:=putM d.M c (d.placed rev pos) }:Dc).renewed c t,fails 0)
theorem placed_rows (d:Dc) (rev:Nat) (pos:Int):(rowsO (d.P.drop (rev - d.fr))).foldl placeR pos=d.placed rev pos:=by
 unfold rowsO placed later
 rw [List.foldl_map]
end Pl.Dc
section
variable {w w':World} {D pa tx ls mk m al:Nat} {k:Nat→Nat} {d:Pl.Dc}
def MvI (w0:World) (b3:Nat) (pos:Int) (RV:List RowV) (i:Value) (wr:World):Prop :=
 ∃ j:Nat,i=.int .i64 (j:Int)∧j≤RV.length∧wr.heap[b3]?=some (.cells #[.int .i64 (((RV.take j).map RowV.l).foldl Pl.placeR pos)] 3 (0,0))∧Tn (fun b=>b=b3) w0 wr
set_option maxHeartbeats 4000000 in
theorem move1_any (h:DocM w D pa tx ls mk k d.cs.length d m) (hok:d.Ok) {c:Int} (hc:0≤c∧c<4294967296) (rev:Nat) (hrev:rev≤18446744073709551615) (pos:Int) (now:Int) (h0:0≤now) (hnow:now≤1099511627776) (hlv:Pl.liveM d.L c now=true) (hA:AnAt w al 0 0 false none 0 0 none 0 0 none 0 0) (hka:k al=0) (b1 b2 b3 b4 b5:Nat)
  (e1:w.heap[b1]?=some (.cells #[.pointer (some ⟨D,0,none⟩)] 23 (0,0))) (e2:w.heap[b2]?=some (.cells #[.int .u64 (rev:Int)] 27 (0,0))) (e3:w.heap[b3]?=some (.cells #[.int .i64 pos] 3 (0,0)))
  (e4:w.heap[b4]?=some (.cells #[.int .u32 c] 28 (0,0))) (e5:w.heap[b5]?=some (.cells #[.int .u64 now] 27 (0,0)))
  (hk:k b1=0∧k b2=0∧k b3=9∧k b4=0∧k b5=0) :
  Calls Tryz.prog 102 #[.pointer (some ⟨al,0,none⟩),.pointer (some ⟨b1,0,none⟩),.pointer (some ⟨b2,0,none⟩),.pointer (some ⟨b3,0,none⟩),.pointer (some ⟨b4,0,none⟩),.pointer (some ⟨b5,0,none⟩)] w (OwnD w D pa tx ls mk al k m (d.moveF c rev pos now)):=by
 obtain ⟨R0,hR0⟩ : ∃ R0,R0=OwnD w D pa tx ls mk al k m (d.moveF c rev pos now):=⟨_,rfl⟩
 rw [← hR0]
 have HR0:=Lib.hid hR0
 have HH:=Lib.hid h
 have HO:=Lib.hid hok
 have HA:=Lib.hid hA
 have HX:=Lib.hid (And.intro e1 (And.intro e2 (And.intro e3 (And.intro e4 e5))))
 have HK:=Lib.hid hk
 have HKA:=Lib.hid hka
 have HL:=Lib.hid hlv
 have HC:=Lib.hid hc
 have HBAD:=Lib.hid (fun (E:Int) (wE:World) (hE:E≠0) (he:d.moveF c rev pos now=(d,Pl.fails E)) (hb:Below w.heap.size w wE)=>show R0 (.returned (.int .i64 E)) wE from by
  rw [hR0,he]
  exact OwnD.bad h al hE hb)
 have HXW:=Lib.hid (fun (W:World) (hb:Below w.heap.size w W)=>And.intro (cell0 (r:=[]) (below_old hb e1 (lt_of_block e1))) (And.intro (cell0 (r:=[]) (below_old hb e2 (lt_of_block e2))) (And.intro (cell0 (r:=[]) (below_old hb e3 (lt_of_block e3))) (And.intro (h.then_ hb).cells trivial))))
 obtain ⟨x1,x2,x3,⟨d0,d1,d2,d3,d4⟩,_⟩:=HXW.out w (Below.refl _ _)
 have HK3:=Lib.hid (fun (wE:World) (hb:Below w.heap.size w wE)=>And.intro (HXW.out wE hb).1 (And.intro (HXW.out wE hb).2.2.2.1.2.1 (HXW.out wE hb).2.1))
 clear h hok hR0 hA e1 e2 e3 e4 e5 hk hka hlv hc
 obtain ⟨E,hE⟩ : ∃ E,E=(Pl.place d.fr d.P.length 0 rev).2:=⟨_,rfl⟩
 by_cases hE0:E≠0
 ·have hS:=since_bad HH.out.drew.past rev hrev E (by
   have:(Pl.place d.fr d.P.length 0 rev).1=0:=by
    rw [hE] at hE0
    unfold Pl.place at hE0 ⊢
    split
    ·rfl
    ·split
     ·rfl
     ·rename_i h1 h2;rw [if_neg h1,if_neg h2] at hE0;exact absurd rfl hE0
   rw [← this,hE]) hE0
  have HS:=Lib.hid hS
  have HE:=Lib.hid hE
  clear hE d0 d2 d3 d4 hS x3
  go_enter Tryz.func102,Tryz.ntmps102
  go_wp2_with fail
  go_region_held3 (fun w'=>w'.cell? ⟨b1,0,none⟩=some (.pointer (some ⟨D,0,none⟩))∧w'.cell? ⟨D,1,none⟩=some (.pointer (some ⟨pa,0,none⟩))∧w'.cell? ⟨b2,0,none⟩=some (.int .u64 (rev:Int)))
   (first | go_keep | (go_split_ands;exact HK3.out _ (below_drew hbS)))
   (first | (go_at_call 72;refine HS.out.mono ?_;rintro e wS ⟨rfl,hbS⟩))
  have z1:(E != 0)=true:=by simpa using hE0
  have z2:decide (E≠0)=true:=decide_eq_true hE0
  have HBS:=Lib.hid (show Below w.heap.size w wS from below_drew hbS)
  clear hbS
  go_wp2_with fail
  refine HBAD.out E _ hE0 ?_ HBS.out
  unfold Pl.Dc.moveF
  rw [← HE.out,if_pos hE0]
 ·have hE1:(Pl.place d.fr d.P.length 0 rev).2=0:=by rw [← hE];exact Decidable.not_not.1 hE0
  obtain ⟨hp1,hp2⟩:=Pl.place_zero.1 hE1
  have hS:=since_ok HH.out.drew.past (rev - d.fr) rev (by omega) (by omega)
  have HPL:=Lib.hid hE1
  have HP12:=Lib.hid (And.intro hp1 hp2)
  obtain ⟨P0,hP0⟩ : ∃ P0,P0=d.P.drop (rev - d.fr):=⟨_,rfl⟩
  rw [← hP0] at hS
  have HS:=Lib.hid hS
  have HP0:=Lib.hid (And.intro hP0 hP0)
  clear hE hE0 hE1 hp1 hp2 hP0 hS d0 d2 d3 d4 E x3
  go_enter Tryz.func102,Tryz.ntmps102
  go_wp2_with fail
  go_region_held3 (fun w'=>w'.cell? ⟨b1,0,none⟩=some (.pointer (some ⟨D,0,none⟩))∧w'.cell? ⟨D,1,none⟩=some (.pointer (some ⟨pa,0,none⟩))∧w'.cell? ⟨b2,0,none⟩=some (.int .u64 (rev:Int)))
   (first | go_keep | (go_split_ands;exact HK3.out _ (below_drew hbS)))
   (first | (go_at_call 72;refine HS.out.mono ?_;rintro e wS ⟨A6,c6,rfl,hoS,hbS⟩))
  have HBS:=Lib.hid (show Below w.heap.size w wS from below_drew hbS)
  have HOS:=Lib.hid hoS
  clear hbS hoS HS x1 x2 d1
  obtain ⟨x1,x2,x3,⟨d0,d1,d2,d3,d4⟩,_⟩:=HXW.out wS HBS.out
  obtain ⟨lo,hlo⟩ : ∃ lo,lo=d.long rev:=⟨_,rfl⟩
  have hLE:=length_ok (HH.out.then_ HBS.out).drew.past (rev - d.fr) rev (by have:=HP12.out;omega) (by have:=HP12.out;omega)
  rw [show d.n + Pl.total (d.P.take (rev - d.fr))=lo from hlo.symm] at hLE
  have HLE:=Lib.hid hLE
  have hlo4:0≤lo∧lo≤4096:=by rw [hlo];exact HO.out.p.top _ (by have:=HP12.out;omega)
  have HLO:=Lib.hid (And.intro hlo hlo)
  clear hLE hlo d0 d2 d3 d4 x3
  go_wp2_with fail
  go_region_held3 (fun w'=>w'.cell? ⟨b1,0,none⟩=some (.pointer (some ⟨D,0,none⟩))∧w'.cell? ⟨D,1,none⟩=some (.pointer (some ⟨pa,0,none⟩))∧w'.cell? ⟨b2,0,none⟩=some (.int .u64 (rev:Int)))
   (first | go_keep | (go_split_ands;exact HK3.out _ (below_then HBS.out (below_drew hbL))))
   (first | (go_at_call 73;refine HLE.out.mono ?_;rintro e wL ⟨rfl,hbL⟩))
  have HBL:=Lib.hid (below_then HBS.out (below_drew hbL))
  have HOL:=Lib.hid (HOS.out.then_ (below_drew hbL))
  clear hbL x1 x2 d1 HLE
  obtain ⟨x1,x2,x3,⟨d0,d1,d2,d3,d4⟩,_⟩:=HXW.out wL HBL.out
  by_cases hpp:pos<0∨lo<pos
  ·have HPP:=Lib.hid hpp
   by_cases h1:pos<0
   ·have z1:decide (pos<0)=true:=decide_eq_true h1
    clear hpp h1
    go_wp2_with fail
    refine HBAD.out 30 _ (by decide) ?_ HBL.out
    unfold Pl.Dc.moveF
    rw [if_neg (by rw [HPL.out];decide),← HLO.out.1,if_pos HPP.out]
   ·have z1:decide (pos<0)=false:=decide_eq_false h1
    have z2:decide (pos > lo)=true:=decide_eq_true (by omega)
    have z3:decide (lo<pos)=true:=decide_eq_true (by omega)
    clear hpp h1
    go_wp2_with fail
    refine HBAD.out 30 _ (by decide) ?_ HBL.out
    unfold Pl.Dc.moveF
    rw [if_neg (by rw [HPL.out];decide),← HLO.out.1,if_pos HPP.out]
  ·have z1:decide (pos<0)=false:=decide_eq_false (by omega)
   have z2:decide (pos > lo)=false:=decide_eq_false (by omega)
   have z3:decide (lo<pos)=false:=decide_eq_false (by omega)
   have HPP:=Lib.hid hpp
   obtain ⟨_,L6,hL6,hL6P⟩:=HOL.out.inF
   have hP0l:∀ o ∈ P0,o.l.length≤256:=fun o ho=>by
    rw [HP0.out.1] at ho
    exact (HO.out.p.row o (List.mem_of_mem_drop ho)).1
   have hq256:P0.length≤256:=by
    rw [HP0.out.1,List.length_drop]
    have:=HO.out.p.cnt
    omega
   have hLl:∀ o ∈ L6,o.l.length≤1000:=fun o ho=>by
    have:=hP0l o.op (by rw [← hL6P];exact List.mem_map.2 ⟨o,ho,rfl⟩)
    show o.op.l.length≤1000
    omega
   have hmap:(L6.map rvOf).map RowV.l=Pl.rowsO P0:=by rw [← hL6P,List.map_map,Pl.rowsO,List.map_map];rfl
   have hlen6:(L6.map rvOf).length≤1000:=by
    have h1:=hL6.1.len
    rw [List.length_map]
    omega
   have hap:∀ q ∈ L6.map rvOf,Apart (fun b=>k b≠0) q.A q.n:=fun q hq=>by
    obtain ⟨o,ho,rfl⟩:=List.mem_map.1 hq
    refine (hL6.2.2 o ho).2.apart fun b hb hn=>?_
    have h1:=HH.out.lt b hn
    have h3:=hb.1
    have h4:w.drew.heap.size=w.heap.size:=rfl
    omega
   have hRW:=rows_any hL6 (by omega) hLl
   obtain ⟨RV,hRV⟩ : ∃ RV,RV=L6.map rvOf:=⟨_,rfl⟩
   rw [← hRV] at hRW hmap hlen6 hap
   have HRW:=Lib.hid (hRW.mono fun e w3 ⟨B,dB,h1,h2,h3,h4⟩=>(show ∃ B dB,e=Ending.returned (.slice B RV.length dB)∧RwK k RV (.slice B RV.length dB) w3∧Below wL.heap.size wL w3 from ⟨B,dB,h1,⟨B,dB,rfl,h2,fun a h0 ea=>by
    have h5:=h3 a h0 ea
    rcases Nat.eq_zero_or_pos (k a.block) with h | h
    ·exact h
    ·have h6:=HH.out.lt a.block (by omega)
     have h7:=HBL.out.size
     omega,hap⟩,h4⟩))
   have hpl:(RV.map RowV.l).foldl Pl.placeR pos=d.placed rev pos:=by rw [hmap,HP0.out.1];exact Pl.Dc.placed_rows d rev pos
   have HPLC:=Lib.hid hpl
   clear hL6 hL6P hP0l hLl hmap hRV hRW hap L6 hpl hpp hq256 d0 d1 d2 d3 d4 x1 x2
   go_wp2_with fail
   refine HRW.out.mono ?_
   rintro e wG ⟨B,dB,rfl,hrw,hbG⟩
   obtain ⟨n,hn⟩ : ∃ n,n=RV.length:=⟨_,rfl⟩
   have HN:=Lib.hid hn
   rw [← hn] at hlen6 hrw
   try rw [← hn]
   have HRK:=Lib.hid hrw
   have HBG:=Lib.hid (below_then HBL.out hbG)
   clear hrw hbG HRW hn x3
   have hE3:=below_old HBG.out HX.out.2.2.1 (lt_of_block HX.out.2.2.1)
   have HE3:=Lib.hid hE3
   clear hE3
   go_wp2_with fail
   go_loopw [45] (fun i wr=>MvI wG b3 pos RV i wr) (fun i _=>n - (intOf i).toNat)
   case atStart=>exact ⟨0,rfl,Nat.zero_le _,HE3.out,Tn.refl _ _⟩
   case round =>
    obtain ⟨j,rfl,hj,hb3,ht⟩:=hrel
    have HT:=Lib.hid ht
    have HB3:=Lib.hid hb3
    rw [← HN.out] at hj
    clear ht
    by_cases hlt:j<n
    ·have z4:(0:Int)≤(j:Int):=Int.natCast_nonneg _
     have z5:(j:Int)<(n:Int):=Int.ofNat_lt.2 hlt
     have HMS:=Lib.hid (show n - (j + 1)<n - j by omega)
     have hjR:j<RV.length:=by rw [← HN.out];exact hlt
     obtain ⟨B2,dB2,hv2,hR2,_,_⟩:=HRK.out.tn (HT.out.more (T':=fun b=>k b≠0) fun b _ e=>by rw [e,HK.out.2.2.1];decide)
     injection hv2 with g1 g2 g3
     subst g1 g3
     clear g2
     obtain ⟨g,rfl,hg,hcl⟩:=hR2 (by omega)
     obtain ⟨⟨Aq,nq,cq,lq⟩,hq⟩ : ∃ q,q=RV.getD j default:=⟨_,rfl⟩
     have hcj:=hcl j hjR
     rw [← hq] at hcj
     have a0:=hcj.1
     unfold RowV.val at a0
     simp only at a0
     obtain ⟨pj,hpj⟩ : ∃ pj,pj=((RV.take j).map RowV.l).foldl Pl.placeR pos:=⟨_,rfl⟩
     rw [← hpj] at hb3
     have HPJ:=Lib.hid (show ((RV.take (j + 1)).map RowV.l).foldl Pl.placeR pos=Pl.placeR pj lq by
      rw [List.take_add_one,List.getElem?_eq_getElem hjR,List.map_append,List.foldl_append,← hpj]
      have:RV[j]=⟨Aq,nq,cq,lq⟩:=by rw [hq,List.getD_eq_getElem?_getD,List.getElem?_eq_getElem hjR];rfl
      rw [this];rfl)
     have y3:=cell0 (r:=[]) hb3
     have yf:=frozen_of_row wr b3 0 _ _ hb3
     have HCP:=Lib.hid (place_any pj Aq nq cq lq wr hcj.2.1)
     have HB4:=Lib.hid hb3
     clear hcl hcj hR2 hq hpj hb3 HB3
     go_wp2_with fail
     refine HCP.out.mono ?_
     rintro e w3 ⟨rfl,hbP⟩
     have hb4:=below_old hbP HB4.out (lt_of_block HB4.out)
     have yf2:=frozen_of_row w3 b3 0 _ _ hb4
     have y4:=cell0 (r:=[]) hb4
     have HB5:=Lib.hid hb4
     have HTP:=Lib.hid (HT.out.trans (Tn.of (fun b=>b=b3) hbP) fun _ _ h=>h)
     clear hb4 hbP HCP y3 yf
     go_wp2_with fail
     go_roundw
     case rel =>
      refine ⟨j + 1,by go_num,hjR,?_,HTP.out.set_ (p:=⟨b3,0,none⟩) (Or.inr rfl) _⟩
      rw [HPJ.out]
      exact blk_set HB5.out _
     case measure=>simp [intOf];(have:=HMS.out;omega)
    ·have hjn:j=n:=by omega
     subst hjn
     rw [show RV.take j=RV by rw [HN.out];exact List.take_length,HPLC.out] at hb3
     obtain ⟨pf,hpf⟩ : ∃ pf,pf=d.placed rev pos:=⟨_,rfl⟩
     rw [← hpf] at hb3
     have hrange:0≤pf∧pf≤(d.cs.length:Int):=by
      rw [hpf]
      exact Pl.Dc.go_later HO.out.p (d.P.length - (rev - d.fr)) (rev - d.fr) pos (by have:=HP12.out;omega) (by have:=HPP.out;omega) (by have:=HPP.out;have:=HLO.out.1;unfold Pl.Dc.long at this;omega)
     have hTw:Tn (fun b=>b=b3) w wr:=(Tn.of _ HBG.out).trans HT.out fun _ _ h=>h
     have hDr:=HH.out.tn9 hTw fun b e=>by rw [e];exact HK.out.2.2.1
     have hne:∀ b,k b=0→b≠b3:=fun b h e=>by rw [e,HK.out.2.2.1] at h;cases h
     have y1:=hTw.old HX.out.1 (hne b1 HK.out.1)
     have y4:=hTw.old HX.out.2.2.2.1 (hne b4 HK.out.2.2.2.1)
     have y5:=hTw.old HX.out.2.2.2.2 (hne b5 HK.out.2.2.2.2)
     have HY:=Lib.hid (And.intro y1 (And.intro y4 y5))
     have HDR:=Lib.hid hDr
     have HTW:=Lib.hid (show Mv k w k wr from ⟨hTw.more fun b _ e=>by rw [e,HK.out.2.2.1];decide,fun _ _=>rfl⟩)
     have HPF:=Lib.hid hpf
     have HSM:=Lib.hid (hDr.drew.setMk HC.out hrange)
     have x1:=cell0 (r:=[]) y1
     have x4:=cell0 (r:=[]) y4
     have x3:=cell0 (r:=[]) hb3
     obtain ⟨d0,d1,d2,d3,d4⟩:=hDr.cells
     have HKM:=Lib.hid (fun (wE:World) (ht:Tn (fun b=>k b=8) wr.drew wE)=>And.intro (cell0 (r:=[]) (ht.old (w:=wr.drew) y1 (by rw [HK.out.1];decide))) (And.intro ((ht.cell (p:=⟨D,4,none⟩) (lt_of_block hDr.blk) (by rw [show (⟨D,4,none⟩ : Addr).block=D from rfl,hDr.kD];decide)).trans d4) (And.intro (cell0 (r:=[]) (ht.old (w:=wr.drew) y4 (by rw [HK.out.2.2.2.1];decide))) (cell0 (r:=[]) (ht.old (w:=wr.drew) hb3 (by rw [HK.out.2.2.1];decide))))))
     clear hlt hj HB3 hb3 hpf hrange hTw hDr hne y1 y4 y5 d0 d1 d2 d3
     go_wp2_with fail
     go_region_held3 (fun w'=>w'.cell? ⟨b1,0,none⟩=some (.pointer (some ⟨D,0,none⟩))∧w'.cell? ⟨D,4,none⟩=some (.pointer (some ⟨mk,0,none⟩))∧w'.cell? ⟨b4,0,none⟩=some (.int .u32 c)∧w'.cell? ⟨b3,0,none⟩=some (.int .i64 pf))
      (first | go_keep | (go_split_ands;exact HKM.out _ htM))
      (first | (go_at_call 65;refine HSM.out.mono ?_;rintro e wM ⟨rfl,hdM,htM⟩))
     have hvM:Mv k w k wM:=(HTW.out.then_ (below_drawn (Below.refl _ _))).trans ⟨htM.more fun b _ e=>by rw [e];decide,fun _ _=>rfl⟩
     have HDM:=Lib.hid hdM
     have HVM:=Lib.hid hvM
     have y1:=htM.old (w:=wr.drew) HY.out.1 (by rw [HK.out.1];decide)
     have y4:=htM.old (w:=wr.drew) HY.out.2.1 (by rw [HK.out.2.2.2.1];decide)
     have y5:=htM.old (w:=wr.drew) HY.out.2.2 (by rw [HK.out.2.2.2.2];decide)
     clear x1 x4 x3 d4 HSM HKM hdM htM hvM
     have hS:=HDM.out.drew.setLs HC.out now h0
     have hl0:(Pl.setL ({ d with M:=Pl.putM d.M c pf }:Pl.Dc).L c now).1=0:=Pl.Dc.set_live HL.out hnow
     rw [hl0] at hS
     have HS:=Lib.hid hS
     have x1:=cell0 (r:=[]) y1
     have x4:=cell0 (r:=[]) y4
     have x5:=cell0 (r:=[]) y5
     obtain ⟨d0,d1,d2,d3,d4⟩:=HDM.out.cells
     have HKL:=Lib.hid (fun (wE:World) (ht:Tn (fun b=>k b=6) wM.drew wE)=>And.intro (cell0 (r:=[]) (ht.old (w:=wM.drew) y1 (by rw [HK.out.1];decide))) (And.intro ((ht.cell (p:=⟨D,3,none⟩) (lt_of_block HDM.out.blk) (by rw [show (⟨D,3,none⟩ : Addr).block=D from rfl,HDM.out.kD];decide)).trans d3) (And.intro (cell0 (r:=[]) (ht.old (w:=wM.drew) y4 (by rw [HK.out.2.2.2.1];decide))) (cell0 (r:=[]) (ht.old (w:=wM.drew) y5 (by rw [HK.out.2.2.2.2];decide))))))
     clear hS hl0 y1 y4 y5 d0 d1 d2 d4
     go_wp2_with fail
     go_region_held3 (fun w'=>w'.cell? ⟨b1,0,none⟩=some (.pointer (some ⟨D,0,none⟩))∧w'.cell? ⟨D,3,none⟩=some (.pointer (some ⟨ls,0,none⟩))∧w'.cell? ⟨b4,0,none⟩=some (.int .u32 c)∧w'.cell? ⟨b5,0,none⟩=some (.int .u64 now))
      (first | go_keep | (go_split_ands;exact HKL.out _ htL))
      (first | (go_at_call 64;refine HS.out.mono ?_;rintro e wE ⟨rfl,hdL,htL⟩))
     have hvL:Mv k w k wE:=(HVM.out.then_ (below_drawn (Below.refl _ _))).trans ⟨htL.more fun b _ e=>by rw [e];decide,fun _ _=>rfl⟩
     have HF:=Lib.hid (OwnD.plain (d':=({ d with M:=Pl.putM d.M c pf }:Pl.Dc).renewed c now) hvL hdL HA.out HKA.out)
     clear hvL hdL htL x1 x4 x5 d3
     go_wp2_with fail
     rw [HR0.out]
     have he:d.moveF c rev pos now=(({ d with M:=Pl.putM d.M c pf }:Pl.Dc).renewed c now,Pl.fails 0):=by
      unfold Pl.Dc.moveF
      rw [if_neg (by rw [HPL.out];decide),← HLO.out.1,if_neg HPP.out,HPF.out]
     rw [he]
     exact HF.out
end
end Go.Proofs.YtlgdcelgkiipaaaGreat
